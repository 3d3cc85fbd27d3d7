/-
  Slices of bytes in the model's memory, told as lists of numbers; no program is named here.
  What the program's table says of a byte.
  Plain functions on numbers and lists: how package num writes a number into bytes and reads it back; no program is named here.
  Contracts of the functions of package num, each over the translated program.
  The contract of a law's helper that takes the first bytes, over the translated program.
  Contracts of num.PutText, num.GetText, of the laws' helpers and of the reference's Put and PutText, over the translated program.
  The helper 'begun' of the laws of package num returns true and writes nothing that was there.
-/
import Derived.WalkKit
import Derived.WalkSpells
import Derived.WalkLawsBesides
import Derived.Laws.CopyOwn
import Derived.Laws.BytesArg
import Derived.Lib.AppendStr
import Derived.Deep.RegionHeld3
import Derived.Test.YtbddghdkmakjlabRows
namespace Go.Proofs.Ytbddghdkmakjlab
set_option maxRecDepth 100000
set_option linter.unusedVariables false
open Go.RowKit

theorem hide {p : Prop} (h : p) : Hid p := h
theorem ret_int {k : IntKind} {a b : Int} (h : a = b) : Ending.returned (.int k a) = .returned (.int k b) := by rw [h]
theorem ret_bool {a b : Bool} (h : a = b) : Ending.returned (.bool a) = .returned (.bool b) := by rw [h]

theorem cell_lt {w : World} {a : Addr} {v : Value} (h : w.cell? a = some v) : a.block < w.heap.size := by
  rcases Nat.lt_or_ge a.block w.heap.size with hl | hl
  · exact hl
  · simp [World.cell?, Array.getElem?_eq_none hl] at h

theorem add_plain (b off j : Nat) : (⟨b, off, none⟩ : Addr).add j = ⟨b, off + j, none⟩ := by unfold Addr.add; split <;> simp_all

theorem getD_at {zs : List Int} {k : Nat} (h : k < zs.length) : zs.getD k 0 = zs[k] := by simp [List.getD, List.getElem?_eq_getElem h]

/-- The byte cells. -/
def bv (l : List Int) : List Value := l.map (Value.int .u8)
theorem bv_len (l : List Int) : (bv l).length = l.length := by simp [bv]
theorem bv_app (a b : List Int) : bv (a ++ b) = bv a ++ bv b := by simp [bv]
theorem bv_one (l : List Int) : ∀ u ∈ bv l, u.oneCell' = true := by
  intro u hu
  simp [bv] at hu
  obtain ⟨z, _, rfl⟩ := hu
  rfl

/-- A slice of bytes that is there: its bytes are zs. -/
def Sl (w : World) (v : Value) (zs : List Int) : Prop :=
  ∃ a cap, v = .slice a zs.length cap ∧ zs.length ≤ cap ∧ cap ≤ maxLen ∧ (∀ z ∈ zs, 0 ≤ z ∧ z ≤ 255) ∧
    ∀ i, i < zs.length → ∃ b off, a = some ⟨b, off, none⟩ ∧ w.cell? ⟨b, off + i, none⟩ = some (.int .u8 (zs.getD i 0))

theorem Sl.nil (w : World) : Sl w (.slice none 0 0) [] := ⟨none, 0, rfl, Nat.le_refl _, Nat.zero_le _, by simp, fun i hi => by simp at hi⟩

/-- It stays while nothing that was there turns. -/
theorem Sl.later {w w' : World} {v : Value} {zs : List Int} (h : Sl w v zs) (hb : Below w.heap.size w w') : Sl w' v zs := by
  obtain ⟨a, cap, e, h1, h2, h3, h4⟩ := h
  refine ⟨a, cap, e, h1, h2, h3, fun i hi => ?_⟩
  obtain ⟨b, off, ea, hc⟩ := h4 i hi
  exact ⟨b, off, ea, by rw [hb.cell (p := ⟨b, off + i, none⟩) (cell_lt hc), hc]⟩

/-- What a call has made and owns is there. -/
theorem Sl.own {w : World} {base : Nat} {e : TypeId} {v : Value} {n : Nat} {zs : List Int} (h : w.ownsRow base e 1 v n (bv zs)) (hz : ∀ z ∈ zs, 0 ≤ z ∧ z ≤ 255) : Sl w v zs := by
  obtain ⟨hl, h⟩ := h
  rw [bv_len, Nat.mul_one] at hl
  subst hl
  rcases h with ⟨rfl, h0⟩ | ⟨g, cap, cur, rfl, _, hh, h1, h2, h3, h4⟩
  · exact ⟨none, 0, by rw [h0], by omega, by unfold maxLen; omega, hz, fun i hi => by omega⟩
  · refine ⟨_, cap, rfl, h1, h2, hz, fun i hi => ⟨g, 0, rfl, ?_⟩⟩
    have hs : i < cur.size := by omega
    have h5 : (cur.toList.take (zs.length * 1))[i]? = (bv zs)[i]? := by rw [h4]
    rw [List.getElem?_take_of_lt (by omega)] at h5
    simp [bv, List.getElem?_eq_getElem hi] at h5
    have h6 : cur[i]? = some (.int .u8 zs[i]) := by simpa using h5
    simp [World.cell?, hh, h6, List.getD, List.getElem?_eq_getElem hi]

/-- Where a copy reads. -/
theorem Sl.src {w W : World} {a : Option Addr} {n cap : Nat} {zs : List Int} (h : Sl w (.slice a n cap) zs) (hW : Below w.heap.size w W) (hp : 0 < (bv zs).length) :
    ∃ ad, a = some ad ∧ ∀ j u, (bv zs)[j]? = some u → W.cell? (ad.add j) = some u := by
  obtain ⟨a', cap', e, _, _, _, hc⟩ := h
  simp at e
  obtain ⟨rfl, rfl, rfl⟩ := e
  obtain ⟨b, off, rfl, _⟩ := hc 0 (by simpa [bv] using hp)
  refine ⟨_, rfl, fun j u hj => ?_⟩
  have hj' : j < zs.length := by
    have := (List.getElem?_eq_some_iff.1 hj).1
    simpa [bv] using this
  obtain ⟨b', off', e, hcell⟩ := hc j hj'
  simp at e
  obtain ⟨rfl, rfl⟩ := e
  have : W.cell? ⟨b, off + j, none⟩ = w.cell? ⟨b, off + j, none⟩ := hW.cell (p := ⟨b, off + j, none⟩) (cell_lt hcell)
  rw [add_plain, this, hcell]
  simp [bv, List.getElem?_eq_getElem hj'] at hj ⊢
  exact hj

/-- Behind make and copy: the copy is owned. -/
theorem own_spliced {w : World} {g cap n : Nat} {e : TypeId} {zs : List Int} {z : Value} (h : w.heap[g]? = some (.cells (splice (List.replicate cap z) 0 (bv zs)).toArray e (0, 0))) (hn : zs.length = n) (hc : n ≤ cap) (hm : cap ≤ maxLen) {base : Nat} (hb : base ≤ g) :
    w.ownsRow base e 1 (.slice (some ⟨g, 0, none⟩) n cap) n (bv zs) := by
  subst hn
  refine ⟨by simp [bv], .inr ⟨g, cap, _, rfl, hb, h, hc, hm, ?_, ?_⟩⟩
  · simp [splice, bv]; omega
  · have e1 : zs.length * 1 = (bv zs).length := by simp [bv]
    rw [e1]
    simp [splice]

/-- A part of it. -/
theorem Sl.part {w : World} {a : Option Addr} {n cap : Nat} {zs : List Int} (h : Sl w (.slice a n cap) zs) {l m : Nat} (hl : l ≤ m) (hm : m ≤ zs.length) (a' : Option Addr)
    (ha : a' = if cap = l then a else a.map (·.add (l * 1))) : Sl w (.slice a' (m - l) (cap - l)) ((zs.drop l).take (m - l)) := by
  obtain ⟨a1, cap1, e, h1, h2, h3, h4⟩ := h
  simp at e
  obtain ⟨rfl, rfl, rfl⟩ := e
  have hlen : ((zs.drop l).take (m - l)).length = m - l := by simp; omega
  refine ⟨a', cap - l, by rw [hlen], by rw [hlen]; omega, by omega, fun z hz => h3 z (List.mem_of_mem_drop (List.mem_of_mem_take hz)), fun i hi => ?_⟩
  rw [hlen] at hi
  obtain ⟨b, off, rfl, hc⟩ := h4 (l + i) (by omega)
  rw [if_neg (by omega)] at ha
  refine ⟨b, off + l, by rw [ha]; simp [add_plain], ?_⟩
  rw [Nat.add_assoc, hc]
  simp [List.getD, List.getElem?_take_of_lt hi, List.getElem?_drop]

/-- Its first m bytes. -/
theorem Sl.head {w : World} {a : Option Addr} {n cap : Nat} {zs : List Int} (h : Sl w (.slice a n cap) zs) {m : Nat} (hm : m ≤ zs.length) : Sl w (.slice a m cap) (zs.take m) := by
  obtain ⟨a1, cap1, e, h1, h2, h3, h4⟩ := h
  simp at e
  obtain ⟨rfl, rfl, rfl⟩ := e
  have hlen : (zs.take m).length = m := by simp; omega
  refine ⟨a, cap, by rw [hlen], by rw [hlen]; omega, h2, fun z hz => h3 z (List.mem_of_mem_take hz), fun i hi => ?_⟩
  rw [hlen] at hi
  obtain ⟨b, off, rfl, hc⟩ := h4 i (by omega)
  refine ⟨b, off, rfl, ?_⟩
  rw [hc]
  simp [List.getD, List.getElem?_take_of_lt hi]

/-- Its value, written out, its length a letter. -/
theorem Sl.opens {w : World} {v : Value} {zs : List Int} (h : Sl w v zs) : ∃ p n cp, v = .slice p n cp ∧ n ≤ cp ∧ cp ≤ 9223372036854775807 ∧ Hid (n = zs.length) ∧ Hid (Sl w (.slice p n cp) zs) := by
  have h' := h
  obtain ⟨a, cap, rfl, h1, h2, -, -⟩ := h
  unfold maxLen at h2
  exact ⟨a, _, cap, rfl, h1, by omega, rfl, h'⟩

/-- Its lengths. -/
theorem Sl.lens {w : World} {a : Option Addr} {n cap : Nat} {zs : List Int} (h : Sl w (.slice a n cap) zs) : n = zs.length ∧ n ≤ cap ∧ cap ≤ 9223372036854775807 := by
  obtain ⟨a1, cap1, e, h1, h2, -, -⟩ := h
  simp at e
  obtain ⟨rfl, rfl, rfl⟩ := e
  unfold maxLen at h2
  exact ⟨rfl, h1, by omega⟩

/-- One of its bytes. -/
theorem Sl.cell {w : World} {a : Option Addr} {n cap : Nat} {zs : List Int} (h : Sl w (.slice a n cap) zs) {i : Nat} (hi : i < n) :
    ∃ b off, a = some ⟨b, off, none⟩ ∧ w.cell? ⟨b, off + i, none⟩ = some (.int .u8 (zs.getD i 0)) ∧ 0 ≤ zs.getD i 0 ∧ zs.getD i 0 ≤ 255 := by
  have hn := h.lens.1
  obtain ⟨a1, cap1, e, h1, h2, h3, h4⟩ := h
  simp at e
  obtain ⟨rfl, rfl, rfl⟩ := e
  obtain ⟨b, off, rfl, hc⟩ := h4 i hi
  have hb := h3 (zs.getD i 0) (by rw [getD_at hi]; exact List.getElem_mem hi)
  exact ⟨b, off, rfl, hc, hb.1, hb.2⟩

theorem bv_set (l : List Int) (k : Nat) (z : Int) : (bv l).set k (.int .u8 z) = bv (l.set k z) := by simp [bv, List.map_set]

/-- What is left behind the first l bytes. -/
theorem Sl.rest {w : World} {a : Option Addr} {n cap : Nat} {zs : List Int} (h : Sl w (.slice a n cap) zs) {l : Nat} (hl : l ≤ zs.length) (a' : Option Addr)
    (ha : a' = if cap = l then a else a.map (·.add l)) : Sl w (.slice a' (n - l) (cap - l)) (zs.drop l) := by
  have hn : n = zs.length := by
    obtain ⟨a1, cap1, e, _⟩ := h
    simp at e
    exact e.2.1
  have := h.part (l := l) (m := zs.length) hl (Nat.le_refl _) a' (by rw [ha, Nat.mul_one])
  rw [List.take_of_length_le (by simp)] at this
  rw [hn]
  exact this

theorem Sl.bd {w : World} {v : Value} {zs : List Int} (h : Sl w v zs) : ∀ z ∈ zs, 0 ≤ z ∧ z ≤ 255 := by
  obtain ⟨_, _, _, _, _, h3, _⟩ := h
  exact h3

theorem bd_app {a b : List Int} (ha : ∀ z ∈ a, 0 ≤ z ∧ z ≤ 255) (hb : ∀ z ∈ b, 0 ≤ z ∧ z ≤ 255) : ∀ z ∈ a ++ b, 0 ≤ z ∧ z ≤ 255 := fun z hz => (List.mem_append.1 hz).elim (ha z) (hb z)

/-- Behind an append onto nothing. -/
theorem below_new {w w' : World} (h : w.grownBy w' (Value.ownBlock (.slice none 0 0))) : Below w.heap.size w w' := (Below.refl _ _).grown h (Nat.le_refl _) (fun k hk => by cases hk)

/-- 'string(b)'. -/
theorem Sl.conv {P : Program} {w : World} {v : Value} {zs : List Int} (h : Sl w v zs) (src dst e : TypeId) (hs : P.underlying src = some (.slice e)) (he : P.underlying e = some (.int .u8)) (hd : P.underlying dst = some .string) :
    (convert src dst v).run P w = .ok (.string (strOfNums zs)) w := by
  obtain ⟨a, cap, rfl, h1, h2, h3, h4⟩ := h
  by_cases h0 : zs.length = 0
  · obtain rfl : zs = [] := List.eq_nil_of_length_eq_zero h0
    cases a with
    | none => exact run_convert_bytes_nil w src e hs he _ _ dst hd
    | some ad =>
      have hl : (loadCells ad 0).run P w = .ok (([] : List Int).map (Value.int .u8)).toArray w := by
        have := run_loadCells_list (P := P) w ad [] (fun j v hj => by simp at hj)
        simpa using this
      rw [run_convert_bytes_string w src dst e _ _ _ hs he hd]
      exact run_bytesToString w ad 0 cap [] hl
  · obtain ⟨b, off, rfl, _⟩ := h4 0 (by omega)
    refine run_convert_bytes_arg w src e hs he b off zs.length cap zs rfl (fun i hi => ?_) dst hd
    obtain ⟨b', off', e, hc⟩ := h4 i hi
    simp at e
    obtain ⟨rfl, rfl⟩ := e
    exact hc

/-- The same as a step of the walk. -/
theorem wpList_conv {P : Program} {w : World} {ops : Array Oper} {rest : List Oper} {o : Oper} {a : Act} {Q : Exit → Act → World → Prop} (hgd : o.guard = none) (x : Operand) (src dst e : TypeId)
    (ho : o.op = .convert src dst x) (hs : P.underlying src = some (.slice e)) (he : P.underlying e = some (.int .u8)) (hd : P.underlying dst = some .string)
    (v : Value) (zs : List Int) (hx : a.eval x = v) (h : Sl w v zs) (hK : wpList P ops Q rest (a.put o.dst (.string (strOfNums zs))) w) : wpList P ops Q (o :: rest) a w := by
  refine wpList_plain hgd fun K hK' => ?_
  have hr := h.conv (P := P) src dst e hs he hd
  unfold Oper.wp
  simp [execOp, ho, hx, hr, Result.andThen]
  exact hK' _ _ hK

/-- The bytes of a string, as numbers. -/
def sb (s : ByteArray) : List Int := s.data.toList.map fun b => (b.toNat : Int)
theorem sb_len (s : ByteArray) : (sb s).length = s.size := by simp [sb]
theorem sb_cells (s : ByteArray) : Lib.strCells s = bv (sb s) := by simp [Lib.strCells, bv, sb, List.map_map]
theorem sb_bd (s : ByteArray) : ∀ z ∈ sb s, 0 ≤ z ∧ z ≤ 255 := by
  intro z hz
  simp [sb] at hz
  obtain ⟨b, _, rfl⟩ := hz
  have := b.toNat_lt
  omega
theorem sb_back (s : ByteArray) : strOfNums (sb s) = s := by
  apply ByteArray.ext
  apply Array.toList_inj.1
  rw [strOfNums_data]
  simp only [sb, List.map_map]
  conv => rhs; rw [← List.map_id s.data.toList]
  apply List.map_congr_left
  intro x _
  simp
theorem sb_nums (zs : List Int) (h : ∀ z ∈ zs, 0 ≤ z ∧ z ≤ 255) : sb (strOfNums zs) = zs := by
  simp [strOfNums, sb, List.map_map]
  conv => rhs; rw [← List.map_id zs]
  apply List.map_congr_left
  intro z hz
  have := h z hz
  simp
  omega

theorem run_append_none_any {P : Program} {w : World} (base : Nat) (t ty e : TypeId) (i : TypeInfo) (size : Nat) (ht : P.underlying t = some (.slice e)) (hi : P.info? e = some i)
    (v : Value) (n c : Nat) (xs : List Value) (hown : w.ownsRow base e size v n xs) :
    (Builtin.append_ #[t, t] ty #[v, .slice none 0 c]).run P w = .ok v w := by
  rcases hown.2 with ⟨rfl, rfl⟩ | ⟨g, cap, cur, rfl, _, _, hnc, _⟩
  · simp [Builtin.append_, run_underlying ht, sizeOf, typeInfo, hi, Builtin.lenOf, Builtin.firstCells]
  · simp [Builtin.append_, run_underlying ht, sizeOf, typeInfo, hi, Builtin.lenOf, Builtin.firstCells, hnc, storeCells]

/-- 'append(own, src...)' of bytes: whatever the source. -/
theorem wpList_append_sl {P : Program} {w : World} {ops : Array Oper} {rest : List Oper} {o : Oper} {a : Act} {Q : Exit → Act → World → Prop} (hgd : o.guard = none) (s x : Operand) (t : TypeId)
    (ho : o.op = .call { callee := .builtin .append, args := #[s, x], argTypes := #[t, t] })
    (base : Nat) (e : TypeId) (ht : P.underlying t = some (.slice e)) (hinfo : (P.info? e).map (fun i => (i.zero, i.size, i.bytes)) = some (some (.int .u8 0), 1, 1))
    (v : Value) (n : Nat) (xs : List Int) (hs : a.eval s = v) (hown : w.ownsRow base e 1 v n (bv xs)) (vx : Value) (zs : List Int) (hx : a.eval x = vx) (hsl : Sl w vx zs)
    (hbytes : n + zs.length ≤ 140737488355328) (hbase : base ≤ w.heap.size)
    (h : ∀ v' w', w'.ownsRow base e 1 v' (n + zs.length) (bv (xs ++ zs)) → w.grownBy w' v.ownBlock → wpList P ops Q rest (a.put o.dst v') w') : wpList P ops Q (o :: rest) a w := by
  obtain ⟨i, hi, hz0, hz1, hz2⟩ := info_parts hinfo
  have hsl' := hsl
  obtain ⟨p, cap, rfl, h1, h2, h3, h4⟩ := hsl
  cases p with
  | none =>
    have h0 : zs.length = 0 := by
      rcases Nat.eq_zero_or_pos zs.length with h | h
      · exact h
      · obtain ⟨b, off, e, _⟩ := h4 0 h; simp at e
    obtain rfl : zs = [] := List.eq_nil_of_length_eq_zero h0
    refine wpList_plain hgd fun K hK => ?_
    have hrun := run_append_none_any (P := P) base t o.type e i 1 ht hi v n cap _ hown
    unfold Oper.wp
    simp [execOp, ho, resolve, invoke, builtin, hs, hx, hrun, Result.andThen]
    exact hK _ _ (h v w (by simpa using hown) (World.grownBy.refl _ _))
  | some ad =>
    refine wpList_append_own w hgd s x t ho base e i (.int .u8 0) 1 1 ht hi hz0 hz1 hz2 rfl (by decide) v n (bv xs) hs hown ad zs.length cap (bv zs) hx (by simp [bv]) ?_ (bv_one zs) (by unfold maxLen; omega) (by omega) hbase ?_
    · intro j u hj
      have hp : 0 < (bv zs).length := by
        have := (List.getElem?_eq_some_iff.1 hj).1
        omega
      obtain ⟨ad', e1, hc⟩ := hsl'.src (W := w) (Below.refl _ _) hp
      simp at e1
      subst e1
      exact hc j u hj
    · intro v' w' ho' hg' _
      exact h v' w' (by rw [bv_app]; exact ho') hg'

/-- In the midst of a region that draws its order one may go over to a stronger condition. -/
theorem held_mono {P : Program} {md : Region.Mode} {ops : Array Oper} {Q : Exit → Act → World → Prop} {S S' : World → Prop} (hS : ∀ w, S' w → S w) :
    ∀ (f : Nat) (l : Array Bool) (a : Act) (w : World), wpAnyH P md ops Q S' f l a w → wpAnyH P md ops Q S f l a w
  | 0, _, _, _, h => h
  | f + 1, _, _, _, h => ⟨h.1, fun i hi => wpOp_mono (fun a' w' h' => ⟨hS _ h'.1, held_mono hS f _ a' w' h'.2⟩) (h.2 i hi)⟩

theorem nums_app (a b : List Int) : strOfNums a ++ strOfNums b = strOfNums (a ++ b) := by
  apply ByteArray.ext
  apply Array.toList_inj.1
  simp [strOfNums]

theorem made_heap (w : World) (z : Value) (n : Nat) (e : TypeId) : (w.alloc (Obj.cells (madeCells #[z] n) e)).heap[w.heap.size]? = some (.cells (List.replicate n z).toArray e (0, 0)) := by
  show (w.heap.push _)[w.heap.size]? = _
  rw [← toList_madeCells_one]
  simp
end Go.Proofs.Ytbddghdkmakjlab

namespace Go.Proofs.Ytbddghdkmakjlab
set_option maxRecDepth 100000
set_option linter.unusedVariables false

theorem Try.info5 : (Try.prog.info? 5).map (fun i => (i.zero, i.size, i.bytes)) = some (some (.int .u8 0), 1, 1) := by kernel_rfl
end Go.Proofs.Ytbddghdkmakjlab

namespace Go.Proofs.Ytbddghdkmakjlab.Nm
set_option maxRecDepth 100000
set_option linter.unusedVariables false

/-- n doubled, or -2 n - 1 of n below 0. -/
def fold (n : Int) : Int := if n < 0 then -2 * n - 1 else 2 * n
/-- back. -/
def unfold (u : Int) : Int := if u % 2 = 1 then -(u / 2) - 1 else u / 2

theorem fold_neg {n : Int} (h : n < 0) : 2 * -(n + 1) + 1 = fold n := by unfold fold; rw [if_pos h]; omega
theorem fold_pos {n : Int} (h : 0 ≤ n) : 2 * n = fold n := by unfold fold; rw [if_neg (by omega)]
theorem unfold_odd {u : Int} (h : (u % 2 == 1) = true) : -(u / 2) - 1 = unfold u := by unfold unfold; rw [if_pos (by simpa using h)]
theorem unfold_even {u : Int} (h : (u % 2 == 1) = false) : u / 2 = unfold u := by unfold unfold; rw [if_neg (by simpa using h)]
theorem fold_bd (n : Int) (h0 : -9223372036854775808 ≤ n) (h1 : n ≤ 9223372036854775807) : 0 ≤ fold n ∧ fold n ≤ 18446744073709551615 := by
  unfold fold; split <;> omega
theorem unfold_fold (n : Int) : unfold (fold n) = n := by
  unfold fold unfold; split <;> split <;> omega

/-- Seven bits a byte, the lowest first, 128 more in each but the last. -/
def enc : Nat → Int → List Int
  | 0, u => [u]
  | f + 1, u => if u < 128 then [u] else (u % 128 + 128) :: enc f (u / 128)

/-- f bytes more are enough. -/
def fits : Nat → Int → Prop
  | 0, u => u < 128
  | f + 1, u => fits f (u / 128)

theorem fits9 (u : Int) (h : u ≤ 18446744073709551615) : fits 9 u := by unfold fits fits fits fits fits fits fits fits fits fits; omega

theorem enc_len : ∀ (f : Nat) (u : Int), 1 ≤ (enc f u).length ∧ (enc f u).length ≤ f + 1
  | 0, u => by simp [enc]
  | f + 1, u => by
    have := enc_len f (u / 128)
    unfold enc; split <;> simp <;> omega

theorem enc_bd : ∀ (f : Nat) (u : Int), 0 ≤ u → fits f u → ∀ z ∈ enc f u, 0 ≤ z ∧ z ≤ 255
  | 0, u, h, k => by simp [enc]; simp [fits] at k; omega
  | f + 1, u, h, k => by
    have := enc_bd f (u / 128) (by omega) k
    unfold enc; split
    · simp; omega
    · intro z hz
      rcases List.mem_cons.1 hz with rfl | hz
      · omega
      · exact this z hz

theorem enc_last {f : Nat} {u : Int} (h : u < 128) : enc f u = [u] := by
  cases f with
  | zero => rfl
  | succ f => simp [enc, h]

theorem enc_more {f : Nat} {u : Int} (h : 128 ≤ u) (k : fits f u) : ∃ g, f = g + 1 ∧ enc f u = (u % 128 + 128) :: enc g (u / 128) ∧ fits g (u / 128) := by
  cases f with
  | zero => simp [fits] at k; omega
  | succ f => exact ⟨f, rfl, by simp [enc, show ¬ u < 128 by omega], k⟩

/-- The bytes of a number that is folded. -/
def num (n : Int) : List Int := enc 9 (fold n)

theorem num_len (n : Int) : 1 ≤ (num n).length ∧ (num n).length ≤ 10 := enc_len 9 _
theorem num_bd (n : Int) (h0 : -9223372036854775808 ≤ n) (h1 : n ≤ 9223372036854775807) : ∀ z ∈ num n, 0 ≤ z ∧ z ≤ 255 :=
  enc_bd 9 _ (fold_bd n h0 h1).1 (fits9 _ (fold_bd n h0 h1).2)

theorem xor_max (b : Int) (h0 : 0 ≤ b) (h1 : b ≤ 18446744073709551615) : bits .xor .u64 IntKind.u64.max b = 18446744073709551615 - b := by
  obtain ⟨n, rfl⟩ := Int.eq_ofNat_of_zero_le h0
  have h2 : (BitVec.ofInt 64 (n : Int)).toNat = n := by
    rw [BitVec.ofInt_natCast, BitVec.toNat_ofNat]; exact Nat.mod_eq_of_lt (by omega)
  have h3 : BitVec.ofInt 64 (IntKind.u64.max) = BitVec.allOnes 64 := by decide
  show IntKind.u64.wrap ((BitVec.ofInt 64 (IntKind.u64.max) ^^^ BitVec.ofInt 64 (n : Int)).toNat : Int) = _
  rw [h3, BitVec.allOnes_xor, BitVec.toNat_not, h2, IntKind.wrap_u64]
  omega

theorem ref_neg {n : Int} (h0 : -9223372036854775808 ≤ n) (hn : n < 0) : bits .xor .u64 IntKind.u64.max (IntKind.u64.wrap (IntKind.u64.wrap n * 2)) = fold n := by
  rw [IntKind.wrap_u64, IntKind.wrap_u64, xor_max _ (by omega) (by omega), ← fold_neg hn]
  omega

/-- What stands at the head: the number, how many bytes, the error (0: OK, 1: ErrForm, 2: ErrMore). i bytes were read, they are worth u. -/
def get : Nat → Int → List Int → Int × Int × Int
  | _, _, [] => (0, 0, 2)
  | i, u, c :: cs => if i = 9 ∧ 1 < c then (0, 0, 1) else if 128 ≤ c then get (i + 1) (u + (c - 128) * 128 ^ i) cs else if c = 0 ∧ 0 < i then (0, 0, 1) else (unfold (u + c * 128 ^ i), i + 1, 0)

theorem pow_nat (k : Nat) : ((128 : Int) ^ k) = ((2 ^ (7 * k) : Nat) : Int) := by
  rw [Nat.pow_mul]; simp

theorem pow_int (k : Nat) : (2 : Int) ^ (7 * k) = ((2 ^ (7 * k) : Nat) : Int) := by simp

theorem and127 (c : Int) (h0 : 0 ≤ c) (h1 : c ≤ 255) : bits .and .u8 c 127 = c % 128 := bits_mask .u8 8 (by decide) wraps_u8 7 (by decide) c h0 (by omega)

theorem u64_id (n : Int) (h0 : 0 ≤ n) (h1 : n ≤ 18446744073709551615) : IntKind.u64.wrap n = n := by rw [IntKind.wrap_u64]; omega

theorem room (k : Nat) (d : Nat) (hk : k ≤ 9) (hd : d < 128) (h9 : k = 9 → d ≤ 1) : d * 2 ^ (7 * k) ≤ 9223372036854775808 := by
  by_cases h : k = 9
  · subst h
    have := h9 rfl
    have : d * 2 ^ (7 * 9) ≤ 1 * 2 ^ (7 * 9) := Nat.mul_le_mul_right _ this
    omega
  · have h8 : 7 * k ≤ 56 := by omega
    have h1 : 2 ^ (7 * k) ≤ 2 ^ 56 := Nat.pow_le_pow_right (by omega) h8
    have h2 : d * 2 ^ (7 * k) ≤ 128 * 2 ^ 56 := Nat.mul_le_mul (by omega) h1
    omega

/-- One byte more. -/
theorem or_step (t c : Int) (k : Nat) (ht0 : 0 ≤ t) (ht : t < 128 ^ k) (hc0 : 0 ≤ c) (hc : c ≤ 255) (hk : k ≤ 9) (h9 : k = 9 → c ≤ 1) :
    bits .or .u64 t (IntKind.u64.wrap (IntKind.u64.wrap (bits .and .u8 c 127) * 2 ^ (7 * k))) = t + (c % 128) * 128 ^ k := by
  rw [and127 c hc0 hc, u64_id (c % 128) (by omega) (by omega), pow_int, pow_nat]
  rw [pow_nat] at ht
  obtain ⟨T, rfl⟩ := Int.eq_ofNat_of_zero_le ht0
  obtain ⟨d, hd⟩ := Int.eq_ofNat_of_zero_le (show 0 ≤ c % 128 by omega)
  have hT : T < 2 ^ (7 * k) := by exact_mod_cast ht
  have hr := room k d hk (by omega) (by intro h; have := h9 h; omega)
  have hM : 2 ^ (7 * k) ≤ 9223372036854775808 := by
    have : 2 ^ (7 * k) ≤ 2 ^ 63 := Nat.pow_le_pow_right (by omega) (by omega)
    omega
  rw [hd]
  generalize hm : 2 ^ (7 * k) = M at *
  have e1 : ((d : Int) * (M : Int)) = ((d * M : Nat) : Int) := by simp
  rw [e1, u64_id _ (by omega) (by omega), u64_or_nat T (d * M) (by omega) (by omega)]
  have e2 : d * M = d <<< (7 * k) := by rw [Nat.shiftLeft_eq, hm]
  rw [Nat.or_comm, e2, ← Nat.shiftLeft_add_eq_or_of_lt (by omega)]
  omega

theorem step_bd (t c : Int) (k : Nat) (ht0 : 0 ≤ t) (ht : t < 128 ^ k) (hc0 : 0 ≤ c) (hk : k ≤ 9) (h9 : k = 9 → c ≤ 1) :
    0 ≤ t + (c % 128) * 128 ^ k ∧ t + (c % 128) * 128 ^ k ≤ 18446744073709551615 ∧ t + (c % 128) * 128 ^ k < 128 ^ (k + 1) := by
  have hp : (128 : Int) ^ (k + 1) = 128 * 128 ^ k := by rw [Int.pow_succ]; omega
  rw [hp]
  rw [pow_nat] at *
  obtain ⟨d, hd⟩ := Int.eq_ofNat_of_zero_le (show 0 ≤ c % 128 by omega)
  have hr := room k d hk (by omega) (by intro h; have := h9 h; omega)
  have hM : 2 ^ (7 * k) ≤ 9223372036854775808 := by
    have : 2 ^ (7 * k) ≤ 2 ^ 63 := Nat.pow_le_pow_right (by omega) (by omega)
    omega
  rw [hd]
  have h127 : d ≤ 127 := by omega
  generalize hm : 2 ^ (7 * k) = M at *
  have h3 : d * M ≤ 127 * M := Nat.mul_le_mul_right _ h127
  have e1 : ((d : Int) * (M : Int)) = ((d * M : Nat) : Int) := by simp
  rw [e1]
  omega

theorem get_end (i : Nat) (u : Int) : get i u [] = (0, 0, 2) := by simp [get]
theorem get_far {c : Int} {cs : List Int} {i : Nat} {u : Int} (h : i = 9) (hc : 1 < c) : get i u (c :: cs) = (0, 0, 1) := by simp [get, h, hc]
theorem get_more {c : Int} {cs : List Int} {i : Nat} {u : Int} (h9 : ¬ i = 9) (hc : 128 ≤ c) (hc1 : c ≤ 255) : get i u (c :: cs) = get (i + 1) (u + (c % 128) * 128 ^ i) cs := by
  have : c % 128 = c - 128 := by omega
  rw [this]; simp [get, h9, hc]
theorem get_long {c : Int} {cs : List Int} {i : Nat} {u : Int} (hi : 0 < i) (hc : c = 0) : get i u (c :: cs) = (0, 0, 1) := by simp [get, hc, hi]
theorem get_last {c : Int} {cs : List Int} {i : Nat} {u : Int} (h9 : i = 9 → c ≤ 1) (hc0 : 0 ≤ c) (hc : c < 128) (hz : c = 0 → i = 0) : get i u (c :: cs) = (unfold (u + (c % 128) * 128 ^ i), (i : Int) + 1, 0) := by
  have e : c % 128 = c := by omega
  rw [e]
  have a1 : ¬ (i = 9 ∧ 1 < c) := fun h => by have := h9 h.1; omega
  have a2 : ¬ (c = 0 ∧ 0 < i) := fun h => by have := hz h.1; omega
  simp [get, a1, a2, show ¬ 128 ≤ c by omega]

theorem unfold_bd (u : Int) (h0 : 0 ≤ u) (h1 : u ≤ 18446744073709551615) : -9223372036854775808 ≤ unfold u ∧ unfold u ≤ 9223372036854775807 := by
  unfold unfold; split <;> omega

theorem get_bd : ∀ (zs : List Int) (i : Nat) (t : Int), 0 ≤ t → t < 128 ^ i → i ≤ 9 → (∀ z ∈ zs, 0 ≤ z ∧ z ≤ 255) →
    ((get i t zs).2.2 = 0 ∧ (i : Int) + 1 ≤ (get i t zs).2.1 ∧ (get i t zs).2.1 ≤ 10 ∧ (get i t zs).2.1 ≤ i + zs.length ∧ -9223372036854775808 ≤ (get i t zs).1 ∧ (get i t zs).1 ≤ 9223372036854775807) ∨
    ((get i t zs).2.2 = 1 ∧ (get i t zs).2.1 = 0 ∧ (get i t zs).1 = 0) ∨ ((get i t zs).2.2 = 2 ∧ (get i t zs).2.1 = 0 ∧ (get i t zs).1 = 0)
  | [], i, t, _, _, _, _ => by simp [get]
  | c :: cs, i, t, h0, h1, h9, hz => by
    have hc := hz c (by simp)
    by_cases hA : i = 9 ∧ 1 < c
    · rw [get_far hA.1 hA.2]; simp
    · have hi9 : i = 9 → c ≤ 1 := fun h => by omega
      have hs := step_bd t c i h0 h1 hc.1 h9 hi9
      by_cases hB : 128 ≤ c
      · rw [get_more (by omega) hB hc.2]
        have := get_bd cs (i + 1) (t + (c % 128) * 128 ^ i) hs.1 hs.2.2 (by omega) (fun z hz' => hz z (by simp [hz']))
        simp only [List.length_cons]
        generalize get (i + 1) (t + (c % 128) * 128 ^ i) cs = r at *
        rcases this with h | h | h
        · left; exact ⟨h.1, by omega, by omega, by omega, h.2.2.2.2⟩
        · right; left; exact h
        · right; right; exact h
      · by_cases hC : c = 0 ∧ 0 < i
        · rw [get_long hC.2 hC.1]; simp
        · rw [get_last hi9 hc.1 (by omega) (fun h => by omega)]
          left
          have := unfold_bd _ hs.1 hs.2.1
          simp only [List.length_cons]
          refine ⟨trivial, by omega, by omega, by omega, this.1, this.2⟩

theorem nine_small {t u : Int} {i : Nat} (h0 : 0 ≤ t) (hU : t + u * 128 ^ i ≤ 18446744073709551615) : i = 9 → u ≤ 1 := by
  intro h
  subst h
  have e : (128 : Int) ^ 9 = 9223372036854775808 := by decide
  rw [e] at hU
  omega

theorem part_up (u : Int) (i : Nat) : u * 128 ^ i = (u % 128) * 128 ^ i + (u / 128) * 128 ^ (i + 1) := by
  have h : u = u % 128 + (u / 128) * 128 := by omega
  have e : (u % 128) * 128 ^ i + (u / 128) * 128 ^ (i + 1) = (u % 128 + (u / 128) * 128) * 128 ^ i := by
    rw [Int.pow_succ, Int.add_mul, Int.mul_assoc, Int.mul_comm (128 ^ i) 128]
  rw [e, ← h]

theorem mod_up (u : Int) : (u % 128 + 128) % 128 = u % 128 := by omega

/-- What is written is read, whatever stands behind. -/
theorem get_enc : ∀ (f : Nat) (u : Int) (i : Nat) (t : Int) (rest : List Int), 0 ≤ u → fits f u → i + f ≤ 9 → (i = 0 ∨ 0 < u) → 0 ≤ t → t < 128 ^ i → t + u * 128 ^ i ≤ 18446744073709551615 →
    get i t (enc f u ++ rest) = (unfold (t + u * 128 ^ i), (i : Int) + ((enc f u).length : Int), 0)
  | 0, u, i, t, rest, h0, hf, hi, hp, ht0, ht, hU => by
    simp [fits] at hf
    have e : enc 0 u = [u] := rfl
    rw [e]
    simp only [List.cons_append, List.nil_append, List.length_cons, List.length_nil]
    rw [get_last (nine_small ht0 hU) h0 hf (fun h => by omega)]
    rw [show u % 128 = u by omega]
    rfl
  | f + 1, u, i, t, rest, h0, hf, hi, hp, ht0, ht, hU => by
    by_cases hu : u < 128
    · rw [enc_last hu]
      simp only [List.cons_append, List.nil_append, List.length_cons, List.length_nil]
      rw [get_last (nine_small ht0 hU) h0 hu (fun h => by omega)]
      rw [show u % 128 = u by omega]
      rfl
    · have e : enc (f + 1) u = (u % 128 + 128) :: enc f (u / 128) := by simp [enc, hu]
      have hs := step_bd t u i ht0 ht h0 (by omega) (nine_small ht0 hU)
      rw [e, List.cons_append, get_more (by omega) (by omega) (by omega), mod_up]
      have hr := get_enc f (u / 128) (i + 1) (t + (u % 128) * 128 ^ i) rest (by omega) hf (by omega) (.inr (by omega)) hs.1 hs.2.2 (by
        have := part_up u i
        rw [Int.add_assoc, ← this]; exact hU)
      rw [hr]
      have := part_up u i
      rw [Int.add_assoc, ← this]
      simp only [List.length_cons]
      have e2 : ((i + 1 : Nat) : Int) + ((enc f (u / 128)).length : Int) = (i : Int) + (((enc f (u / 128)).length + 1 : Nat) : Int) := by omega
      rw [e2]

/-- What is cut off is not all there. -/
theorem get_cut : ∀ (f : Nat) (u : Int) (i : Nat) (t : Int) (m : Nat), i + f ≤ 9 → fits f u → m < (enc f u).length → get i t ((enc f u).take m) = (0, 0, 2)
  | 0, u, i, t, m, _, _, hm => by
    have : m = 0 := by simp [enc] at hm; omega
    subst this
    simp [get]
  | f + 1, u, i, t, m, hi, hf, hm => by
    cases m with
    | zero => simp [get]
    | succ m =>
      by_cases hu : u < 128
      · rw [enc_last hu] at hm; simp at hm
      · have e : enc (f + 1) u = (u % 128 + 128) :: enc f (u / 128) := by simp [enc, hu]
        rw [e] at hm ⊢
        simp only [List.length_cons] at hm
        rw [List.take_succ_cons, get_more (by omega) (by omega) (by omega)]
        exact get_cut f (u / 128) (i + 1) _ m (by omega) hf (by omega)

theorem get_num (n : Int) (h0 : -9223372036854775808 ≤ n) (h1 : n ≤ 9223372036854775807) (rest : List Int) : get 0 0 (num n ++ rest) = (n, ((num n).length : Int), 0) := by
  have hb := fold_bd n h0 h1
  have := get_enc 9 (fold n) 0 0 rest hb.1 (fits9 _ hb.2) (by omega) (.inl rfl) (by omega) (by decide) (by simpa using hb.2)
  unfold num
  rw [this]
  simp [unfold_fold]

theorem get_num_cut (n : Int) (h0 : -9223372036854775808 ≤ n) (h1 : n ≤ 9223372036854775807) (m : Nat) (hm : m < (num n).length) : get 0 0 ((num n).take m) = (0, 0, 2) :=
  get_cut 9 (fold n) 0 0 m (by omega) (fits9 _ (fold_bd n h0 h1).2) hm

/-- A text at the head: its bytes, how many bytes with its length, the error. -/
def getText (zs : List Int) : List Int × Int × Int :=
  if (get 0 0 zs).2.2 ≠ 0 then ([], 0, (get 0 0 zs).2.2)
  else if (get 0 0 zs).1 < 0 ∨ 65536 < (get 0 0 zs).1 then ([], 0, 1)
  else if (zs.length : Int) < (get 0 0 zs).2.1 + (get 0 0 zs).1 then ([], 0, 2)
  else ((zs.drop (get 0 0 zs).2.1.toNat).take (get 0 0 zs).1.toNat, (get 0 0 zs).2.1 + (get 0 0 zs).1, 0)

theorem getText_err {zs : List Int} {n k e : Int} (h : get 0 0 zs = (n, k, e)) (he : e ≠ 0) : getText zs = ([], 0, e) := by simp [getText, h, he]
theorem getText_form {zs : List Int} {n k : Int} (h : get 0 0 zs = (n, k, 0)) (hn : n < 0 ∨ 65536 < n) : getText zs = ([], 0, 1) := by simp [getText, h, hn]
theorem getText_more {zs : List Int} {n k : Int} (h : get 0 0 zs = (n, k, 0)) (hn : ¬ (n < 0 ∨ 65536 < n)) (hl : (zs.length : Int) < k + n) : getText zs = ([], 0, 2) := by simp [getText, h, hn, hl]
theorem getText_ok {zs : List Int} {n k : Int} (h : get 0 0 zs = (n, k, 0)) (hn : ¬ (n < 0 ∨ 65536 < n)) (hl : ¬ (zs.length : Int) < k + n) : getText zs = ((zs.drop k.toNat).take n.toNat, k + n, 0) := by simp [getText, h, hn, hl]

/-- A text's bytes: its length, itself. -/
def text (s : List Int) : List Int := num s.length ++ s

theorem text_len (s : List Int) : (text s).length = (num s.length).length + s.length := by simp [text]

theorem getText_text (s rest : List Int) (h : s.length ≤ 65536) : getText (text s ++ rest) = (s, ((text s).length : Int), 0) := by
  have hg := get_num (s.length : Int) (by omega) (by omega) (s ++ rest)
  have e : text s ++ rest = num s.length ++ (s ++ rest) := by simp [text]
  unfold getText
  rw [e, hg]
  have hl := text_len s
  have n2 : ¬ ((s.length : Int) < 0 ∨ 65536 < (s.length : Int)) := by omega
  have n3 : ¬ (((num s.length ++ (s ++ rest)).length : Int) < ((num s.length).length : Int) + (s.length : Int)) := by simp; omega
  simp only [ne_eq, not_true_eq_false, if_false, n2, n3, Int.toNat_natCast]
  rw [hl]
  simp

theorem getText_cut (s : List Int) (m : Nat) (h : s.length ≤ 65536) (hm : m < (text s).length) : getText ((text s).take m) = ([], 0, 2) := by
  have hl := text_len s
  by_cases h1 : m < (num s.length).length
  · have e : (text s).take m = (num s.length).take m := by
      unfold text; rw [List.take_append_of_le_length (by omega)]
    have hg := get_num_cut (s.length : Int) (by omega) (by omega) m h1
    unfold getText
    rw [e, hg]
    simp
  · have e : (text s).take m = num s.length ++ s.take (m - (num s.length).length) := by
      unfold text; rw [List.take_append, List.take_of_length_le (by omega)]
    have hg := get_num (s.length : Int) (by omega) (by omega) (s.take (m - (num s.length).length))
    unfold getText
    rw [e, hg]
    have n2 : ¬ ((s.length : Int) < 0 ∨ 65536 < (s.length : Int)) := by omega
    have n3 : (((num s.length ++ s.take (m - (num s.length).length)).length : Int) < ((num s.length).length : Int) + (s.length : Int)) := by
      simp; omega
    simp only [ne_eq, not_true_eq_false, if_false, n2, n3, if_true]

end Go.Proofs.Ytbddghdkmakjlab.Nm

namespace Go.Proofs.Ytbddghdkmakjlab
set_option maxRecDepth 100000
set_option linter.unusedVariables false
open Go.RowKit

set_option maxHeartbeats 400000 in
theorem fold_any (n : Int) (w : World) (h0 : -9223372036854775808 ≤ n) (h1 : n ≤ 9223372036854775807) :
    Calls Try.prog 54 #[.int .i64 n] w fun e w' => e = .returned (.int .u64 (Nm.fold n)) ∧ w' = w := by
  by_cases hn : n < 0
  · go_enter Try.func54, Try.ntmps54
    go_wp2
    go_ret
    exact ⟨ret_int (Nm.fold_neg hn), rfl⟩
  · go_enter Try.func54, Try.ntmps54
    go_wp2
    go_ret
    exact ⟨ret_int (Nm.fold_pos (by omega)), rfl⟩

set_option maxHeartbeats 400000 in
theorem unfold_any (u : Int) (w : World) (h0 : 0 ≤ u) (h1 : u ≤ 18446744073709551615) :
    Calls Try.prog 46 #[.int .u64 u] w fun e w' => e = .returned (.int .i64 (Nm.unfold u)) ∧ w' = w := by
  go_enter Try.func46, Try.ntmps46
  go_wp2
  · go_ret
    exact ⟨ret_int (Nm.unfold_odd (by assumption)), rfl⟩
  · go_ret
    exact ⟨ret_int (Nm.unfold_even (by assumption)), rfl⟩

set_option maxHeartbeats 400000 in
theorem appendFolded_any (v : Value) (n : Nat) (xs : List Int) (u : Int) (base : Nat) (w : World) (h0 : 0 ≤ u) (h1 : u ≤ 18446744073709551615)
    (hown : w.ownsRow base 5 1 v n (bv xs)) (hn : n ≤ 140737488355000) (hb : base ≤ w.heap.size) :
    Calls Try.prog 52 #[v, .int .u64 u] w fun e w' => ∃ v', e = .returned v' ∧
      w'.ownsRow base 5 1 v' (n + (Nm.enc 9 u).length) (bv (xs ++ Nm.enc 9 u)) ∧ Below base w w' := by
  obtain ⟨i0, hi, hz0, hz1, hz2⟩ := info_parts Try.info5
  have hl10 := (Nm.enc_len 9 u).2
  have HH : Hid (∀ f t d, Nm.enc 9 u = d ++ Nm.enc f t → d.length ≤ 9) := fun f t d h => by
    have := (Nm.enc_len f t).1
    have h2 := congrArg List.length h
    rw [List.length_append] at h2
    omega
  go_enter Try.func52, Try.ntmps52
  go_wp2
  go_loopw [0, 1] (fun v t wr => ∃ (d : List Int) (x : Int) (f : Nat), t = .int .u64 x ∧ 0 ≤ x ∧ x ≤ 18446744073709551615 ∧ Hid (Nm.enc 9 u = d ++ Nm.enc f x) ∧ Nm.fits f x ∧
      wr.ownsRow base 5 1 v (n + d.length) (bv (xs ++ d)) ∧ Below base w wr ∧ base ≤ wr.heap.size) (fun _ t _ => (intOf t).toNat)
  case atStart => exact ⟨[], u, 9, rfl, h0, h1, rfl, Nm.fits9 u h1, by simpa using hown, Below.refl _ _, hb⟩
  case round =>
    obtain ⟨d, x, f, rfl, hx0, hx1, he, hf, ho, hbel, hbs⟩ := hrel
    have hd := HH.out _ _ _ he.out
    by_cases hx : 128 ≤ x
    · go_wp2_with (first
        | (at_builtin; refine wpList_append_own _ rfl _ _ 35 rfl base 5 i0 (.int .u8 0) 1 1 Try.underlying35 hi hz0 hz1 hz2 rfl (by decide) _ _ _ rfl (ho.alloc _) ⟨wr.heap.size, 0, none⟩ 1 1 [.int .u8 (x % 128 + 128)] rfl rfl (cell_one_new _ _ _) (by intro q hq; simp at hq; subst hq; rfl) (by unfold maxLen; omega) (by omega) (by simp; omega) ?_)
        | fail)
      intro v' w1 hown' hgrow _
      obtain ⟨g, rfl, hg, hfg⟩ := Nm.enc_more hx hf
      have hb1 : Below base w w1 := (hbel.alloc hbs _).grown hgrow (by simp; omega) (fun k hk => (ho.lt k hk).1)
      have hs1 : base ≤ w1.heap.size := by have := hgrow.size; simp at this; omega
      have HR : Hid (w1.ownsRow base 5 1 v' (n + (d ++ [x % 128 + 128]).length) (bv (xs ++ (d ++ [x % 128 + 128])))) := by
        show World.ownsRow _ _ _ _ _ _ _
        simpa [bv, Nat.add_assoc] using hown'
      have HE : Hid (Nm.enc 9 u = (d ++ [x % 128 + 128]) ++ Nm.enc g (x / 128)) := by
        show _ = _
        rw [he.out, hg]; simp
      clear hown' hgrow ho hg he
      go_wp2
      go_roundw
      case rel => exact ⟨d ++ [x % 128 + 128], x / 128, g, rfl, by omega, by omega, HE, hfg, HR.out, hb1, hs1⟩
      case measure => simp [intOf]; omega
    · go_wp2_with (first
        | (at_builtin; refine wpList_append_own _ rfl _ _ 35 rfl base 5 i0 (.int .u8 0) 1 1 Try.underlying35 hi hz0 hz1 hz2 rfl (by decide) _ _ _ rfl (ho.alloc _) ⟨wr.heap.size, 0, none⟩ 1 1 [.int .u8 x] rfl rfl (cell_one_new _ _ _) (by intro q hq; simp at hq; subst hq; rfl) (by unfold maxLen; omega) (by omega) (by simp; omega) ?_)
        | fail)
      intro v' w1 hown' hgrow _
      have hb1 : Below base w w1 := (hbel.alloc hbs _).grown hgrow (by simp; omega) (fun k hk => (ho.lt k hk).1)
      have HE : Hid (Nm.enc 9 u = d ++ [x]) := by
        show _ = _
        rw [he.out, Nm.enc_last (by omega)]
      have HR : Hid (w1.ownsRow base 5 1 v' (n + (Nm.enc 9 u).length) (bv (xs ++ Nm.enc 9 u))) := by
        show World.ownsRow _ _ _ _ _ _ _
        rw [HE.out]
        simpa [bv, Nat.add_assoc] using hown'
      clear hown' hgrow ho he
      go_wp2
      go_ret
      exact ⟨_, rfl, HR.out, hb1⟩

set_option maxHeartbeats 400000 in
theorem copyWithRoom_any (v : Value) (zs : List Int) (r : Int) (w : World) (h : Sl w v zs) (h0 : 0 ≤ r) (hr : (zs.length : Int) + r ≤ 140737488355328) :
    Calls Try.prog 53 #[v, .int .i64 r] w fun e w' => ∃ v', e = .returned v' ∧
      w'.ownsRow w.heap.size 5 1 v' zs.length (bv zs) ∧ Below w.heap.size w w' := by
  obtain ⟨i0, hi, hz0, hz1, hz2⟩ := info_parts Try.info5
  have HS := hide h
  obtain ⟨a, cap, rfl, hl, hm, hbd, hc⟩ := h
  unfold maxLen at hm
  clear hc hbd
  have hmk := fun (w : World) => run_make (P := Try.prog) w 35 5 i0 (.int .u8 0) Try.underlying35 hi hz0 .i64 .i64 zs.length (zs.length + r) (by omega) (by omega) (by rw [hz2]; omega) (by omega)
  have HM := hide (made_heap w (.int .u8 0) ((zs.length : Int) + r).toNat 5)
  have hB : Below w.heap.size w (w.alloc (Obj.cells (madeCells #[Value.int IntKind.u8 0] ((zs.length : Int) + r).toNat) 5)) := (Below.refl _ _).alloc (Nat.le_refl _) _
  go_enter Try.func53, Try.ntmps53
  go_wp2_with (refine wpList_copy_splice rfl (.tmp 13) (.tmp 14) 35 35 rfl 5 Try.underlying35 (by rw [hi]; simp [hz1]) _ _ _ _ _ _ rfl rfl w.heap.size 0 _ 5 HM.out (bv zs) (by simp [bv]) (fun hp => ⟨rfl, HS.out.src hB hp⟩) (by simp [bv]; omega) (bv_one zs) w.heap.size w hB (Nat.le_refl _) ?_; intro w2 HG hB2)
  go_ret
  exact ⟨_, rfl, own_spliced HG.out rfl (by omega) (by unfold maxLen; omega) (Nat.le_refl _), hB2⟩

set_option maxHeartbeats 400000 in
theorem put_any (v : Value) (zs : List Int) (n : Int) (w : World) (h : Sl w v zs) (hl : zs.length ≤ 140737488350000) (h0 : -9223372036854775808 ≤ n) (h1 : n ≤ 9223372036854775807) :
    Calls Try.prog 40 #[v, .int .i64 n] w fun e w' => ∃ v', e = .returned v' ∧
      w'.ownsRow w.heap.size 5 1 v' (zs.length + (Nm.num n).length) (bv (zs ++ Nm.num n)) ∧ Below w.heap.size w w' := by
  have hfb := Nm.fold_bd n h0 h1
  go_enter Try.func40, Try.ntmps40
  go_wp2_with fail
  refine (copyWithRoom_any v zs 10 w h (by omega) (by omega)).mono ?_
  rintro e w1 ⟨v1, rfl, ho1, hb1⟩
  go_wp2_with fail
  refine (fold_any n _ h0 h1).mono ?_
  rintro e w2 ⟨rfl, rfl⟩
  go_wp2_with fail
  refine (appendFolded_any v1 zs.length zs (Nm.fold n) w.heap.size _ hfb.1 hfb.2 ho1 (by omega) hb1.size).mono ?_
  rintro e w3 ⟨v3, rfl, ho3, hb3⟩
  have hb := hb1.trans hb3
  clear hb1 hb3 ho1
  go_wp2_with fail
  go_ret
  exact ⟨_, rfl, ho3, hb⟩

set_option maxHeartbeats 400000 in
theorem get_any (v : Value) (zs : List Int) (w : World) (h : Sl w v zs) :
    Calls Try.prog 34 #[v] w fun e w' => e = .returned (.tuple #[.int .i64 (Nm.get 0 0 zs).1, .int .i64 (Nm.get 0 0 zs).2.1, .int .i64 (Nm.get 0 0 zs).2.2]) ∧ w' = w := by
  obtain ⟨a, cap, rfl, hl, hm, hbd, hc⟩ := h
  unfold maxLen at hm
  have HC := hide hc
  have HB := hide hbd
  clear hc hbd
  go_enter Try.func34, Try.ntmps34
  go_wp2
  go_loop [5, 10] (fun u i => ∃ (k : Nat) (t : Int), k ≤ zs.length ∧ k ≤ 9 ∧ i = .int .i64 k ∧ u = .int .u64 t ∧ 0 ≤ t ∧ t ≤ 18446744073709551615 ∧ Hid (t < 128 ^ k) ∧ Hid (Nm.get 0 0 zs = Nm.get k t (zs.drop k))) (fun _ i => zs.length - (intOf i).toNat)
  case atStart => exact ⟨0, 0, Nat.zero_le _, by omega, rfl, rfl, by omega, by omega, by show _ < _; omega, by show _ = _; simp⟩
  case round =>
    obtain ⟨k, t, hk, hk9, rfl, rfl, ht0, ht1, ht, he⟩ := hrel
    by_cases hlt : k < zs.length
    · obtain ⟨b, off, rfl, hcell⟩ := HC.out k hlt
      have hcb := HB.out (zs.getD k 0) (by rw [getD_at hlt]; exact List.getElem_mem hlt)
      have hdr : zs.drop k = zs.getD k 0 :: zs.drop (k + 1) := by rw [getD_at hlt]; exact List.drop_eq_getElem_cons hlt
      have HD := hide hdr
      generalize zs.getD k 0 = c at *
      clear hdr HC HB
      obtain ⟨hc0, hc1⟩ := hcb
      by_cases hA : k = 9 ∧ 1 < c
      · obtain ⟨hA1, hA2⟩ := hA
        have HF : Hid (Nm.get 0 0 zs = (0, 0, 1)) := by show _ = _; rw [he.out, HD.out, Nm.get_far hA1 hA2]
        have hA1' : ((k : Int) == 9) = true := by simp; omega
        clear hA1
        go_wp2_with fail
        go_ret3
        exact ⟨by rw [HF.out]; rfl, rfl⟩
      · have h9 : k = 9 → c ≤ 1 := fun h => by omega
        have HO := hide (Nm.or_step t c k ht0 ht.out hc0 hc1 hk9 h9)
        have hsb := Nm.step_bd t c k ht0 ht.out hc0 hk9 h9
        generalize hx : t + (c % 128) * 128 ^ k = x at *
        obtain ⟨hx0, hx1, hx2⟩ := hsb
        have HX2 := hide hx2
        clear hx2
        by_cases hB : 128 ≤ c
        · have hk8 : ¬ k = 9 := fun h => by have := h9 h; omega
          have HF : Hid (Nm.get 0 0 zs = Nm.get (k + 1) x (zs.drop (k + 1))) := by show _ = _; rw [he.out, HD.out, Nm.get_more hk8 hB hc1, hx]
          have hk8' : ((k : Int) == 9) = false := by simp; omega
          clear hx h9 hA hk8
          go_wp2_with fail
          go_round
          case rel => exact ⟨k + 1, x, by omega, by simp at hk8'; omega, by go_num, by rw [HO.out], hx0, hx1, HX2, HF⟩
          case measure => simp [intOf]; omega
        · by_cases hC : c = 0 ∧ 0 < k
          · obtain ⟨hC1, hC2⟩ := hC
            have HF : Hid (Nm.get 0 0 zs = (0, 0, 1)) := by show _ = _; rw [he.out, HD.out, Nm.get_long hC2 hC1]
            have hC1' : (c == 0) = true := by simp [hC1]
            have hC3 : ¬ 1 < c := by omega
            clear hC1 h9 hA hx
            cases hk9' : ((k : Int) == 9)
            all_goals
              go_wp2_with fail
              go_ret3
              exact ⟨by rw [HF.out]; rfl, rfl⟩
          · have HF : Hid (Nm.get 0 0 zs = (Nm.unfold x, (k : Int) + 1, 0)) := by show _ = _; rw [he.out, HD.out, Nm.get_last h9 hc0 (by omega) (fun h => by omega), hx]
            cases hk9' : ((k : Int) == 9)
            · cases hcz : (c == 0)
              · clear hx h9 hA hC
                go_wp2_with fail
                rw [HO.out]
                refine (unfold_any x _ hx0 hx1).mono ?_
                rintro e w2 ⟨rfl, rfl⟩
                go_wp2_with fail
                go_ret3
                exact ⟨by rw [HF.out]; rfl, rfl⟩
              · have hk0 : ¬ 0 < k := by simp at hcz; omega
                clear hx h9 hA hC
                go_wp2_with fail
                rw [HO.out]
                refine (unfold_any x _ hx0 hx1).mono ?_
                rintro e w2 ⟨rfl, rfl⟩
                go_wp2_with fail
                go_ret3
                exact ⟨by rw [HF.out]; rfl, rfl⟩
            · have hk : k = 9 := by simp at hk9'; omega
              have hc2 : c ≤ 1 := h9 hk
              have hc3 : (c == 0) = false := by simp; omega
              clear hx h9 hA hC hk
              go_wp2_with fail
              rw [HO.out]
              refine (unfold_any x _ hx0 hx1).mono ?_
              rintro e w2 ⟨rfl, rfl⟩
              go_wp2_with fail
              go_ret3
              exact ⟨by rw [HF.out]; rfl, rfl⟩
    · have HF : Hid (Nm.get 0 0 zs = (0, 0, 2)) := by
        show _ = _
        rw [he.out, List.drop_eq_nil_of_le (by omega), Nm.get_end]
      go_wp2_with fail
      go_ret3
      exact ⟨by rw [HF.out]; rfl, rfl⟩
end Go.Proofs.Ytbddghdkmakjlab

namespace Go.Proofs.Ytbddghdkmakjlab
set_option maxRecDepth 100000
set_option linter.unusedVariables false
open Go.RowKit

end Go.Proofs.Ytbddghdkmakjlab

namespace Go.Proofs.Ytbddghdkmakjlab
set_option maxRecDepth 100000
set_option linter.unusedVariables false
open Go.RowKit

set_option maxHeartbeats 400000 in
theorem putText_any (v : Value) (zs : List Int) (s : ByteArray) (w : World) (h : Sl w v zs) (hl : zs.length + s.size ≤ 140737488350000) :
    Calls Try.prog 42 #[v, .string s] w fun e w' => ∃ v', e = .returned v' ∧
      w'.ownsRow w.heap.size 5 1 v' (zs.length + (Nm.text (sb s)).length) (bv (zs ++ Nm.text (sb s))) ∧ Below w.heap.size w w' := by
  obtain ⟨i0, hi, hz0, hz1, hz2⟩ := info_parts Try.info5
  have hfb := Nm.fold_bd (s.size : Int) (by omega) (by omega)
  have hnl := Nm.num_len (s.size : Int)
  have HT : Hid (Nm.text (sb s) = Nm.num s.size ++ sb s) := by show _ = _; unfold Nm.text; rw [sb_len]
  go_enter Try.func42, Try.ntmps42
  go_wp2_with fail
  refine (copyWithRoom_any v zs _ w h (by omega) (by omega)).mono ?_
  rintro e w1 ⟨v1, rfl, ho1, hb1⟩
  go_wp2_with fail
  refine (fold_any _ _ (by omega) (by omega)).mono ?_
  rintro e w2 ⟨rfl, rfl⟩
  go_wp2_with fail
  refine (appendFolded_any v1 zs.length zs (Nm.fold s.size) w.heap.size _ hfb.1 hfb.2 ho1 (by omega) hb1.size).mono ?_
  rintro e w3 ⟨v3, rfl, ho3, hb3⟩
  have hb := hb1.trans hb3
  clear hb1 hb3 ho1
  have hs3 := hb.size
  have HL : Hid ((Nm.enc 9 (Nm.fold s.size)).length ≤ 10) := hnl.2
  go_wp2_with (refine Lib.wpList_append_own_string _ rfl (.tmp 16) (.tmp 17) 35 9 rfl w.heap.size 5 i0 Try.underlying35 Try.underlying9 hi hz0 hz1 hz2 _ _ _ rfl ho3 s rfl (by have := HL.out; unfold maxLen; omega) (by have := HL.out; omega) hs3 ?_; intro v4 w4 ho4 hg4 _)
  have hb4 := hb.grown hg4 hs3 (fun k hk => (ho3.lt k hk).1)
  go_ret
  refine ⟨_, rfl, ?_, hb4⟩
  rw [sb_cells] at ho4
  rw [HT.out]
  simpa [bv, Nm.num, sb_len, Nat.add_assoc] using ho4

set_option maxHeartbeats 400000 in
theorem getText_any (v : Value) (zs : List Int) (w : World) (h : Sl w v zs) :
    Calls Try.prog 48 #[v] w fun e w' => e = .returned (.tuple #[.string (strOfNums (Nm.getText zs).1), .int .i64 (Nm.getText zs).2.1, .int .i64 (Nm.getText zs).2.2]) ∧ w' = w := by
  have HS := hide h
  obtain ⟨a, cap, rfl, hl, hm, hbd, hc⟩ := h
  unfold maxLen at hm
  clear hc
  have hg := Nm.get_bd zs 0 0 (by omega) (by decide) (by omega) hbd
  clear hbd
  have hga := get_any _ zs w HS.out
  obtain ⟨r, hr⟩ : ∃ r, r = Nm.get 0 0 zs := ⟨_, rfl⟩
  rw [← hr] at hga hg
  obtain ⟨n, k, x⟩ := r
  simp only at hga hg
  have HR := hide hr.symm
  clear hr
  have HGA := hide hga
  clear hga
  rcases hg with ⟨rfl, hk1, hk10, hkl, hn0, hn1⟩ | hg
  · simp only [Int.natCast_zero, Int.zero_add] at hk1 hkl
    by_cases hn : n < 0 ∨ 65536 < n
    · have HF := hide (Nm.getText_form HR.out hn)
      cases hd : decide (n < 0)
      · have hn' : 65536 < n := by simp at hd; omega
        have hd' : ¬ n < 0 := by omega
        clear hn
        go_enter Try.func48, Try.ntmps48
        go_wp2_with fail
        refine HGA.out.mono ?_
        rintro e w2 ⟨rfl, rfl⟩
        go_wp2_with fail
        go_ret3
        exact ⟨by rw [HF.out]; rfl, rfl⟩
      · have hd' : n < 0 := by simpa using hd
        clear hn
        go_enter Try.func48, Try.ntmps48
        go_wp2_with fail
        refine HGA.out.mono ?_
        rintro e w2 ⟨rfl, rfl⟩
        go_wp2_with fail
        go_ret3
        exact ⟨by rw [HF.out]; rfl, rfl⟩
    · have h1 : ¬ n < 0 := by omega
      have h2 : ¬ 65536 < n := by omega
      by_cases hle : (zs.length : Int) < k + n
      · have HF := hide (Nm.getText_more HR.out hn hle)
        clear hn
        go_enter Try.func48, Try.ntmps48
        go_wp2_with fail
        refine HGA.out.mono ?_
        rintro e w2 ⟨rfl, rfl⟩
        go_wp2_with fail
        go_ret3
        exact ⟨by rw [HF.out]; rfl, rfl⟩
      · have HF := hide (Nm.getText_ok HR.out hn hle)
        clear hn
        obtain ⟨k, rfl⟩ := Int.eq_ofNat_of_zero_le (show 0 ≤ k by omega)
        obtain ⟨n, rfl⟩ := Int.eq_ofNat_of_zero_le (show 0 ≤ n by omega)
        have hp := HS.out.part (l := k) (m := k + n) (by omega) (by omega) _ rfl
        have HP : Hid (Sl w (.slice (if cap = k then a else Option.map (fun x : Addr => x.add k) a) (k + n - k) (cap - k)) (List.take n (List.drop k zs))) := by
          show Sl _ _ _
          rw [Nat.mul_one] at hp
          rw [show List.take n (List.drop k zs) = List.take (k + n - k) (List.drop k zs) by rw [Nat.add_sub_cancel_left]]
          exact hp
        clear hp
        go_enter Try.func48, Try.ntmps48
        go_wp2_with fail
        refine HGA.out.mono ?_
        rintro e w2 ⟨rfl, rfl⟩
        go_wp2_with (refine wpList_conv rfl (.tmp 34) 35 9 5 rfl Try.underlying35 Try.underlying5 Try.underlying9 _ (List.take n (List.drop k zs)) rfl ?_ ?_; exact HP.out)
        all_goals
          go_ret3
          exact ⟨by rw [HF.out]; rfl, rfl⟩
  · have HF : Hid (Nm.getText zs = ([], 0, x)) := Nm.getText_err HR.out (by omega)
    have hx : (x != 0) = true := by simp; omega
    clear hg
    go_enter Try.func48, Try.ntmps48
    go_wp2_with fail
    refine HGA.out.mono ?_
    rintro e w2 ⟨rfl, rfl⟩
    go_wp2_with fail
    go_ret3
    exact ⟨by rw [HF.out]; rfl, rfl⟩

set_option maxHeartbeats 400000 in
theorem cut_any (s : ByteArray) (n : Nat) (w : World) (_h : s.size ≤ maxLen) :
    Calls Try.prog 16 #[.string s, .int .i64 n] w fun e w' => ∃ s', e = .returned (.string s') ∧ s'.size ≤ n ∧ s'.size ≤ s.size ∧ w' = w := by
  unfold maxLen at _h
  by_cases hn : n < s.size
  · go_enter Try.func16, Try.ntmps16
    go_wp2_with fail
    go_ret
    exact ⟨_, rfl, by simp; omega, by simp; omega, rfl⟩
  · go_enter Try.func16, Try.ntmps16
    go_wp2_with fail
    go_ret
    exact ⟨_, rfl, by omega, by omega, rfl⟩

theorem text_bd (s : ByteArray) (h : s.size ≤ 140737488350000) : ∀ z ∈ Nm.text (sb s), 0 ≤ z ∧ z ≤ 255 :=
  bd_app (Nm.num_bd _ (by omega) (by rw [sb_len]; omega)) (sb_bd s)

end Go.Proofs.Ytbddghdkmakjlab

namespace Go.Proofs.Ytbddghdkmakjlab
set_option maxRecDepth 100000
set_option linter.unusedVariables false
open Go.RowKit

theorem Sl.two (w : World) (x y : Int) (t : TypeId) (hx : 0 ≤ x ∧ x ≤ 255) (hy : 0 ≤ y ∧ y ≤ 255) : Sl (w.alloc (.cells #[.int .u8 x, .int .u8 y] t)) (.slice (some ⟨w.heap.size, 0, none⟩) 2 2) [x, y] := by
  refine ⟨_, _, rfl, by simp, by unfold maxLen; omega, by simp; omega, fun i hi => ⟨w.heap.size, 0, rfl, ?_⟩⟩
  match i, hi with
  | 0, _ => simp
  | 1, _ => simp
  | n + 2, h => simp at h; omega

theorem get_at {v : Value} {zs : List Int} {w : World} {n k x : Int} (h : Sl w v zs) (he : Nm.get 0 0 zs = (n, k, x)) :
    Calls Try.prog 34 #[v] w fun e w' => e = .returned (.tuple #[.int .i64 n, .int .i64 k, .int .i64 x]) ∧ w' = w := by
  have := get_any v zs w h
  rw [he] at this
  exact this

theorem getText_at {v : Value} {zs : List Int} {w : World} {s : List Int} {k x : Int} (h : Sl w v zs) (he : Nm.getText zs = (s, k, x)) :
    Calls Try.prog 48 #[v] w fun e w' => e = .returned (.tuple #[.string (strOfNums s), .int .i64 k, .int .i64 x]) ∧ w' = w := by
  have := getText_any v zs w h
  rw [he] at this
  exact this

end Go.Proofs.Ytbddghdkmakjlab
