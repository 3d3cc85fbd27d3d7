/-
  Slices of bytes in the model's memory, told as lists of numbers; no program is named here.
-/
import Derived.WalkKit
import Derived.WalkSpells
import Derived.WalkLawsBesides
import Derived.Laws.CopyOwn
import Derived.Laws.BytesArg
import Derived.Lib.AppendStr
import Derived.Deep.RegionHeld3
namespace Go.Proofs.Ytiggannhanfolaa
set_option maxRecDepth 100000
set_option linter.unusedVariables false
open Go.RowKit

theorem hide {p : Prop} (h : p) : Hid p := h
theorem ret_int {k : IntKind} {a b : Int} (h : a = b) : Ending.returned (.int k a) = .returned (.int k b) := by rw [h]
theorem ret_bool {a b : Bool} (h : a = b) : Ending.returned (.bool a) = .returned (.bool b) := by rw [h]

theorem cell_lt {w : World} {a : Addr} {v : Value} (h : w.cell? a = some v) : a.block < w.heap.size := by
  rcases Nat.lt_or_ge a.block w.heap.size with hl | hl
  · exact hl
  · simp [World.cell?, Array.getElem?_eq_none hl] at h

theorem add_plain (b off j : Nat) : (⟨b, off, none⟩ : Addr).add j = ⟨b, off + j, none⟩ := by unfold Addr.add; split <;> simp_all

theorem getD_at {zs : List Int} {k : Nat} (h : k < zs.length) : zs.getD k 0 = zs[k] := by simp [List.getD, List.getElem?_eq_getElem h]

/-- The byte cells. -/
def bv (l : List Int) : List Value := l.map (Value.int .u8)
theorem bv_len (l : List Int) : (bv l).length = l.length := by simp [bv]
theorem bv_app (a b : List Int) : bv (a ++ b) = bv a ++ bv b := by simp [bv]
theorem bv_one (l : List Int) : ∀ u ∈ bv l, u.oneCell' = true := by
  intro u hu
  simp [bv] at hu
  obtain ⟨z, _, rfl⟩ := hu
  rfl

/-- A slice of bytes that is there: its bytes are zs. -/
def Sl (w : World) (v : Value) (zs : List Int) : Prop :=
  ∃ a cap, v = .slice a zs.length cap ∧ zs.length ≤ cap ∧ cap ≤ maxLen ∧ (∀ z ∈ zs, 0 ≤ z ∧ z ≤ 255) ∧
    ∀ i, i < zs.length → ∃ b off, a = some ⟨b, off, none⟩ ∧ w.cell? ⟨b, off + i, none⟩ = some (.int .u8 (zs.getD i 0))

theorem Sl.nil (w : World) : Sl w (.slice none 0 0) [] := ⟨none, 0, rfl, Nat.le_refl _, Nat.zero_le _, by simp, fun i hi => by simp at hi⟩

/-- It stays while nothing that was there turns. -/
theorem Sl.later {w w' : World} {v : Value} {zs : List Int} (h : Sl w v zs) (hb : Below w.heap.size w w') : Sl w' v zs := by
  obtain ⟨a, cap, e, h1, h2, h3, h4⟩ := h
  refine ⟨a, cap, e, h1, h2, h3, fun i hi => ?_⟩
  obtain ⟨b, off, ea, hc⟩ := h4 i hi
  exact ⟨b, off, ea, by rw [hb.cell (p := ⟨b, off + i, none⟩) (cell_lt hc), hc]⟩

/-- What a call has made and owns is there. -/
theorem Sl.own {w : World} {base : Nat} {e : TypeId} {v : Value} {n : Nat} {zs : List Int} (h : w.ownsRow base e 1 v n (bv zs)) (hz : ∀ z ∈ zs, 0 ≤ z ∧ z ≤ 255) : Sl w v zs := by
  obtain ⟨hl, h⟩ := h
  rw [bv_len, Nat.mul_one] at hl
  subst hl
  rcases h with ⟨rfl, h0⟩ | ⟨g, cap, cur, rfl, _, hh, h1, h2, h3, h4⟩
  · exact ⟨none, 0, by rw [h0], by omega, by unfold maxLen; omega, hz, fun i hi => by omega⟩
  · refine ⟨_, cap, rfl, h1, h2, hz, fun i hi => ⟨g, 0, rfl, ?_⟩⟩
    have hs : i < cur.size := by omega
    have h5 : (cur.toList.take (zs.length * 1))[i]? = (bv zs)[i]? := by rw [h4]
    rw [List.getElem?_take_of_lt (by omega)] at h5
    simp [bv, List.getElem?_eq_getElem hi] at h5
    have h6 : cur[i]? = some (.int .u8 zs[i]) := by simpa using h5
    simp [World.cell?, hh, h6, List.getD, List.getElem?_eq_getElem hi]

/-- Where a copy reads. -/
theorem Sl.src {w W : World} {a : Option Addr} {n cap : Nat} {zs : List Int} (h : Sl w (.slice a n cap) zs) (hW : Below w.heap.size w W) (hp : 0 < (bv zs).length) :
    ∃ ad, a = some ad ∧ ∀ j u, (bv zs)[j]? = some u → W.cell? (ad.add j) = some u := by
  obtain ⟨a', cap', e, _, _, _, hc⟩ := h
  simp at e
  obtain ⟨rfl, rfl, rfl⟩ := e
  obtain ⟨b, off, rfl, _⟩ := hc 0 (by simpa [bv] using hp)
  refine ⟨_, rfl, fun j u hj => ?_⟩
  have hj' : j < zs.length := by
    have := (List.getElem?_eq_some_iff.1 hj).1
    simpa [bv] using this
  obtain ⟨b', off', e, hcell⟩ := hc j hj'
  simp at e
  obtain ⟨rfl, rfl⟩ := e
  have : W.cell? ⟨b, off + j, none⟩ = w.cell? ⟨b, off + j, none⟩ := hW.cell (p := ⟨b, off + j, none⟩) (cell_lt hcell)
  rw [add_plain, this, hcell]
  simp [bv, List.getElem?_eq_getElem hj'] at hj ⊢
  exact hj

/-- Behind make and copy: the copy is owned. -/
theorem own_spliced {w : World} {g cap n : Nat} {e : TypeId} {zs : List Int} {z : Value} (h : w.heap[g]? = some (.cells (splice (List.replicate cap z) 0 (bv zs)).toArray e (0, 0))) (hn : zs.length = n) (hc : n ≤ cap) (hm : cap ≤ maxLen) {base : Nat} (hb : base ≤ g) :
    w.ownsRow base e 1 (.slice (some ⟨g, 0, none⟩) n cap) n (bv zs) := by
  subst hn
  refine ⟨by simp [bv], .inr ⟨g, cap, _, rfl, hb, h, hc, hm, ?_, ?_⟩⟩
  · simp [splice, bv]; omega
  · have e1 : zs.length * 1 = (bv zs).length := by simp [bv]
    rw [e1]
    simp [splice]

/-- A part of it. -/
theorem Sl.part {w : World} {a : Option Addr} {n cap : Nat} {zs : List Int} (h : Sl w (.slice a n cap) zs) {l m : Nat} (hl : l ≤ m) (hm : m ≤ zs.length) (a' : Option Addr)
    (ha : a' = if cap = l then a else a.map (·.add (l * 1))) : Sl w (.slice a' (m - l) (cap - l)) ((zs.drop l).take (m - l)) := by
  obtain ⟨a1, cap1, e, h1, h2, h3, h4⟩ := h
  simp at e
  obtain ⟨rfl, rfl, rfl⟩ := e
  have hlen : ((zs.drop l).take (m - l)).length = m - l := by simp; omega
  refine ⟨a', cap - l, by rw [hlen], by rw [hlen]; omega, by omega, fun z hz => h3 z (List.mem_of_mem_drop (List.mem_of_mem_take hz)), fun i hi => ?_⟩
  rw [hlen] at hi
  obtain ⟨b, off, rfl, hc⟩ := h4 (l + i) (by omega)
  rw [if_neg (by omega)] at ha
  refine ⟨b, off + l, by rw [ha]; simp [add_plain], ?_⟩
  rw [Nat.add_assoc, hc]
  simp [List.getD, List.getElem?_take_of_lt hi, List.getElem?_drop]

/-- Its first m bytes. -/
theorem Sl.head {w : World} {a : Option Addr} {n cap : Nat} {zs : List Int} (h : Sl w (.slice a n cap) zs) {m : Nat} (hm : m ≤ zs.length) : Sl w (.slice a m cap) (zs.take m) := by
  obtain ⟨a1, cap1, e, h1, h2, h3, h4⟩ := h
  simp at e
  obtain ⟨rfl, rfl, rfl⟩ := e
  have hlen : (zs.take m).length = m := by simp; omega
  refine ⟨a, cap, by rw [hlen], by rw [hlen]; omega, h2, fun z hz => h3 z (List.mem_of_mem_take hz), fun i hi => ?_⟩
  rw [hlen] at hi
  obtain ⟨b, off, rfl, hc⟩ := h4 i (by omega)
  refine ⟨b, off, rfl, ?_⟩
  rw [hc]
  simp [List.getD, List.getElem?_take_of_lt hi]

/-- Its value, written out, its length a letter. -/
theorem Sl.opens {w : World} {v : Value} {zs : List Int} (h : Sl w v zs) : ∃ p n cp, v = .slice p n cp ∧ n ≤ cp ∧ cp ≤ 9223372036854775807 ∧ Hid (n = zs.length) ∧ Hid (Sl w (.slice p n cp) zs) := by
  have h' := h
  obtain ⟨a, cap, rfl, h1, h2, -, -⟩ := h
  unfold maxLen at h2
  exact ⟨a, _, cap, rfl, h1, by omega, rfl, h'⟩

/-- Its lengths. -/
theorem Sl.lens {w : World} {a : Option Addr} {n cap : Nat} {zs : List Int} (h : Sl w (.slice a n cap) zs) : n = zs.length ∧ n ≤ cap ∧ cap ≤ 9223372036854775807 := by
  obtain ⟨a1, cap1, e, h1, h2, -, -⟩ := h
  simp at e
  obtain ⟨rfl, rfl, rfl⟩ := e
  unfold maxLen at h2
  exact ⟨rfl, h1, by omega⟩

/-- One of its bytes. -/
theorem Sl.cell {w : World} {a : Option Addr} {n cap : Nat} {zs : List Int} (h : Sl w (.slice a n cap) zs) {i : Nat} (hi : i < n) :
    ∃ b off, a = some ⟨b, off, none⟩ ∧ w.cell? ⟨b, off + i, none⟩ = some (.int .u8 (zs.getD i 0)) ∧ 0 ≤ zs.getD i 0 ∧ zs.getD i 0 ≤ 255 := by
  have hn := h.lens.1
  obtain ⟨a1, cap1, e, h1, h2, h3, h4⟩ := h
  simp at e
  obtain ⟨rfl, rfl, rfl⟩ := e
  obtain ⟨b, off, rfl, hc⟩ := h4 i hi
  have hb := h3 (zs.getD i 0) (by rw [getD_at hi]; exact List.getElem_mem hi)
  exact ⟨b, off, rfl, hc, hb.1, hb.2⟩

theorem bv_set (l : List Int) (k : Nat) (z : Int) : (bv l).set k (.int .u8 z) = bv (l.set k z) := by simp [bv, List.map_set]

/-- What is left behind the first l bytes. -/
theorem Sl.rest {w : World} {a : Option Addr} {n cap : Nat} {zs : List Int} (h : Sl w (.slice a n cap) zs) {l : Nat} (hl : l ≤ zs.length) (a' : Option Addr)
    (ha : a' = if cap = l then a else a.map (·.add l)) : Sl w (.slice a' (n - l) (cap - l)) (zs.drop l) := by
  have hn : n = zs.length := by
    obtain ⟨a1, cap1, e, _⟩ := h
    simp at e
    exact e.2.1
  have := h.part (l := l) (m := zs.length) hl (Nat.le_refl _) a' (by rw [ha, Nat.mul_one])
  rw [List.take_of_length_le (by simp)] at this
  rw [hn]
  exact this

theorem Sl.bd {w : World} {v : Value} {zs : List Int} (h : Sl w v zs) : ∀ z ∈ zs, 0 ≤ z ∧ z ≤ 255 := by
  obtain ⟨_, _, _, _, _, h3, _⟩ := h
  exact h3

theorem bd_app {a b : List Int} (ha : ∀ z ∈ a, 0 ≤ z ∧ z ≤ 255) (hb : ∀ z ∈ b, 0 ≤ z ∧ z ≤ 255) : ∀ z ∈ a ++ b, 0 ≤ z ∧ z ≤ 255 := fun z hz => (List.mem_append.1 hz).elim (ha z) (hb z)

/-- Behind an append onto nothing. -/
theorem below_new {w w' : World} (h : w.grownBy w' (Value.ownBlock (.slice none 0 0))) : Below w.heap.size w w' := (Below.refl _ _).grown h (Nat.le_refl _) (fun k hk => by cases hk)

/-- 'string(b)'. -/
theorem Sl.conv {P : Program} {w : World} {v : Value} {zs : List Int} (h : Sl w v zs) (src dst e : TypeId) (hs : P.underlying src = some (.slice e)) (he : P.underlying e = some (.int .u8)) (hd : P.underlying dst = some .string) :
    (convert src dst v).run P w = .ok (.string (strOfNums zs)) w := by
  obtain ⟨a, cap, rfl, h1, h2, h3, h4⟩ := h
  by_cases h0 : zs.length = 0
  · obtain rfl : zs = [] := List.eq_nil_of_length_eq_zero h0
    cases a with
    | none => exact run_convert_bytes_nil w src e hs he _ _ dst hd
    | some ad =>
      have hl : (loadCells ad 0).run P w = .ok (([] : List Int).map (Value.int .u8)).toArray w := by
        have := run_loadCells_list (P := P) w ad [] (fun j v hj => by simp at hj)
        simpa using this
      rw [run_convert_bytes_string w src dst e _ _ _ hs he hd]
      exact run_bytesToString w ad 0 cap [] hl
  · obtain ⟨b, off, rfl, _⟩ := h4 0 (by omega)
    refine run_convert_bytes_arg w src e hs he b off zs.length cap zs rfl (fun i hi => ?_) dst hd
    obtain ⟨b', off', e, hc⟩ := h4 i hi
    simp at e
    obtain ⟨rfl, rfl⟩ := e
    exact hc

/-- The same as a step of the walk. -/
theorem wpList_conv {P : Program} {w : World} {ops : Array Oper} {rest : List Oper} {o : Oper} {a : Act} {Q : Exit → Act → World → Prop} (hgd : o.guard = none) (x : Operand) (src dst e : TypeId)
    (ho : o.op = .convert src dst x) (hs : P.underlying src = some (.slice e)) (he : P.underlying e = some (.int .u8)) (hd : P.underlying dst = some .string)
    (v : Value) (zs : List Int) (hx : a.eval x = v) (h : Sl w v zs) (hK : wpList P ops Q rest (a.put o.dst (.string (strOfNums zs))) w) : wpList P ops Q (o :: rest) a w := by
  refine wpList_plain hgd fun K hK' => ?_
  have hr := h.conv (P := P) src dst e hs he hd
  unfold Oper.wp
  simp [execOp, ho, hx, hr, Result.andThen]
  exact hK' _ _ hK

/-- The bytes of a string, as numbers. -/
def sb (s : ByteArray) : List Int := s.data.toList.map fun b => (b.toNat : Int)
theorem sb_len (s : ByteArray) : (sb s).length = s.size := by simp [sb]
theorem sb_cells (s : ByteArray) : Lib.strCells s = bv (sb s) := by simp [Lib.strCells, bv, sb, List.map_map]
theorem sb_bd (s : ByteArray) : ∀ z ∈ sb s, 0 ≤ z ∧ z ≤ 255 := by
  intro z hz
  simp [sb] at hz
  obtain ⟨b, _, rfl⟩ := hz
  have := b.toNat_lt
  omega
theorem sb_back (s : ByteArray) : strOfNums (sb s) = s := by
  apply ByteArray.ext
  apply Array.toList_inj.1
  rw [strOfNums_data]
  simp only [sb, List.map_map]
  conv => rhs; rw [← List.map_id s.data.toList]
  apply List.map_congr_left
  intro x _
  simp
theorem sb_nums (zs : List Int) (h : ∀ z ∈ zs, 0 ≤ z ∧ z ≤ 255) : sb (strOfNums zs) = zs := by
  simp [strOfNums, sb, List.map_map]
  conv => rhs; rw [← List.map_id zs]
  apply List.map_congr_left
  intro z hz
  have := h z hz
  simp
  omega

theorem run_append_none_any {P : Program} {w : World} (base : Nat) (t ty e : TypeId) (i : TypeInfo) (size : Nat) (ht : P.underlying t = some (.slice e)) (hi : P.info? e = some i)
    (v : Value) (n c : Nat) (xs : List Value) (hown : w.ownsRow base e size v n xs) :
    (Builtin.append_ #[t, t] ty #[v, .slice none 0 c]).run P w = .ok v w := by
  rcases hown.2 with ⟨rfl, rfl⟩ | ⟨g, cap, cur, rfl, _, _, hnc, _⟩
  · simp [Builtin.append_, run_underlying ht, sizeOf, typeInfo, hi, Builtin.lenOf, Builtin.firstCells]
  · simp [Builtin.append_, run_underlying ht, sizeOf, typeInfo, hi, Builtin.lenOf, Builtin.firstCells, hnc, storeCells]

/-- 'append(own, src...)' of bytes: whatever the source. -/
theorem wpList_append_sl {P : Program} {w : World} {ops : Array Oper} {rest : List Oper} {o : Oper} {a : Act} {Q : Exit → Act → World → Prop} (hgd : o.guard = none) (s x : Operand) (t : TypeId)
    (ho : o.op = .call { callee := .builtin .append, args := #[s, x], argTypes := #[t, t] })
    (base : Nat) (e : TypeId) (ht : P.underlying t = some (.slice e)) (hinfo : (P.info? e).map (fun i => (i.zero, i.size, i.bytes)) = some (some (.int .u8 0), 1, 1))
    (v : Value) (n : Nat) (xs : List Int) (hs : a.eval s = v) (hown : w.ownsRow base e 1 v n (bv xs)) (vx : Value) (zs : List Int) (hx : a.eval x = vx) (hsl : Sl w vx zs)
    (hbytes : n + zs.length ≤ 140737488355328) (hbase : base ≤ w.heap.size)
    (h : ∀ v' w', w'.ownsRow base e 1 v' (n + zs.length) (bv (xs ++ zs)) → w.grownBy w' v.ownBlock → wpList P ops Q rest (a.put o.dst v') w') : wpList P ops Q (o :: rest) a w := by
  obtain ⟨i, hi, hz0, hz1, hz2⟩ := info_parts hinfo
  have hsl' := hsl
  obtain ⟨p, cap, rfl, h1, h2, h3, h4⟩ := hsl
  cases p with
  | none =>
    have h0 : zs.length = 0 := by
      rcases Nat.eq_zero_or_pos zs.length with h | h
      · exact h
      · obtain ⟨b, off, e, _⟩ := h4 0 h; simp at e
    obtain rfl : zs = [] := List.eq_nil_of_length_eq_zero h0
    refine wpList_plain hgd fun K hK => ?_
    have hrun := run_append_none_any (P := P) base t o.type e i 1 ht hi v n cap _ hown
    unfold Oper.wp
    simp [execOp, ho, resolve, invoke, builtin, hs, hx, hrun, Result.andThen]
    exact hK _ _ (h v w (by simpa using hown) (World.grownBy.refl _ _))
  | some ad =>
    refine wpList_append_own w hgd s x t ho base e i (.int .u8 0) 1 1 ht hi hz0 hz1 hz2 rfl (by decide) v n (bv xs) hs hown ad zs.length cap (bv zs) hx (by simp [bv]) ?_ (bv_one zs) (by unfold maxLen; omega) (by omega) hbase ?_
    · intro j u hj
      have hp : 0 < (bv zs).length := by
        have := (List.getElem?_eq_some_iff.1 hj).1
        omega
      obtain ⟨ad', e1, hc⟩ := hsl'.src (W := w) (Below.refl _ _) hp
      simp at e1
      subst e1
      exact hc j u hj
    · intro v' w' ho' hg' _
      exact h v' w' (by rw [bv_app]; exact ho') hg'

/-- In the midst of a region that draws its order one may go over to a stronger condition. -/
theorem held_mono {P : Program} {md : Region.Mode} {ops : Array Oper} {Q : Exit → Act → World → Prop} {S S' : World → Prop} (hS : ∀ w, S' w → S w) :
    ∀ (f : Nat) (l : Array Bool) (a : Act) (w : World), wpAnyH P md ops Q S' f l a w → wpAnyH P md ops Q S f l a w
  | 0, _, _, _, h => h
  | f + 1, _, _, _, h => ⟨h.1, fun i hi => wpOp_mono (fun a' w' h' => ⟨hS _ h'.1, held_mono hS f _ a' w' h'.2⟩) (h.2 i hi)⟩

theorem nums_app (a b : List Int) : strOfNums a ++ strOfNums b = strOfNums (a ++ b) := by
  apply ByteArray.ext
  apply Array.toList_inj.1
  simp [strOfNums]

theorem made_heap (w : World) (z : Value) (n : Nat) (e : TypeId) : (w.alloc (Obj.cells (madeCells #[z] n) e)).heap[w.heap.size]? = some (.cells (List.replicate n z).toArray e (0, 0)) := by
  show (w.heap.push _)[w.heap.size]? = _
  rw [← toList_madeCells_one]
  simp
end Go.Proofs.Ytiggannhanfolaa
