/-
  Contracts of sheet.changed, Changes; images in memory.
-/
import Derived.Test.YtiggannhanfolaaShtE
import Derived.Laws.OwnMore
import Derived.Great.BuildSlice
namespace Go.Proofs.Ytiggannhanfolaa
set_option maxRecDepth 100000
set_option linter.unusedVariables false
open Go.RowKit
set_option linter.unusedVariables false

/-- The change of one page, if it is one. -/
def chOf (m f : Nat → Option (List Int)) (i : Nat) : Option (Nat × List Int) :=
  match m i with
  | some zs => if f i = some zs then none else some (i, zs)
  | none => none
/-- The changes of the first n pages. -/
def chs (m f : Nat → Option (List Int)) (n : Nat) : List (Nat × List Int) := (List.range n).filterMap (chOf m f)

theorem chs_zero (m f : Nat → Option (List Int)) : chs m f 0 = [] := rfl
theorem chs_succ (m f : Nat → Option (List Int)) (n : Nat) : chs m f (n + 1) = chs m f n ++ (chOf m f n).toList := by
  rw [chs, List.range_succ, List.filterMap_append]
  congr 1
theorem chs_len (m f : Nat → Option (List Int)) : ∀ n, (chs m f n).length ≤ n
  | 0 => Nat.le_refl _
  | n + 1 => by
    rw [chs_succ, List.length_append]
    have h1 := chs_len m f n
    have h2 : (chOf m f n).toList.length ≤ 1 := by cases chOf m f n <;> simp
    omega

set_option maxHeartbeats 1000000 in
theorem changed_any {w : World} {g : Nat} {u : Value} {m f : Nat → Option (List Int)} {vs : List Value} (h : Sheet w g u m vs) (hs : Src w u f) (no : Nat) (hno : no < 96) :
    Calls Try.prog 28 #[.pointer (some ⟨g, 0, none⟩), .int .i64 (no : Int)] w fun e w' => e = .returned (.bool (chOf m f no).isSome) ∧ Below w.heap.size w w' := by
  have c0 := h.at_.cell (i := 1 + no) (by rw [h.len]; omega)
  rw [Nat.add_comm 1 no] at c0
  have hno1 : no + 1 = 1 + no := Nat.add_comm _ _
  rcases h.pages no hno with ⟨h1, h2⟩ | ⟨zs, b, h1, h2, h3, h4⟩
  · have hr : (chOf m f no).isSome = false := by simp [chOf, h1]
    rw [hr]
    rw [h2, hno1] at c0
    clear hno1 h hs h1 h2 hr
    go_enter Try.func28, Try.ntmps28
    go_wp2_with fail
    go_ret
    exact ⟨rfl, Below.refl _ _⟩
  · rw [h3, hno1] at c0
    have HH := hide h
    have HS := hide hs
    have HV := hide (h4.sl h2)
    have HZ := hide h2
    have hx : (chOf m f no).isSome = (match f no with | some ys => !decide (ys = zs) | none => true) := by
      unfold chOf
      rw [h1]
      cases f no with
      | none => simp
      | some ys => by_cases e : ys = zs <;> simp [e]
    rw [hx]
    clear hno1 h hs h1 h2 h3 h4 hx
    generalize hfr : f no = fr
    go_enter Try.func28, Try.ntmps28
    go_wp2_with fail
    refine (under_any HH.out HS.out no hno).mono ?_
    rintro e W1 hr
    rw [hfr] at hr
    clear HS hfr
    cases fr with
    | none =>
      obtain ⟨rfl, hb⟩ := hr
      have HB := hide hb
      clear hb c0 HV HH
      go_wp2_with fail
      go_ret
      exact ⟨rfl, HB.out⟩
    | some ys =>
      obtain ⟨v, rfl, ho, hz, hb⟩ := hr
      have HB := hide hb
      have HY := hide (Sl.own ho hz.2)
      have hgl := HH.out.at_.lt
      rw [← hb.cell (p := ⟨g, 1 + no, none⟩) hgl] at c0
      have HV1 := hide (HV.out.later hb)
      clear hb ho hz HV HH hgl
      go_wp2_with fail
      refine (equal_any HY.out HV1.out).mono ?_
      rintro e W2 ⟨rfl, rfl⟩
      clear HY HV1
      go_wp2_with fail
      go_ret
      exact ⟨rfl, HB.out⟩

/-- An image in memory. -/
structure Im where
  n : Nat
  b : Nat
  c : Nat
  z : List Int
/-- Its cells. -/
def Im.cells (x : Im) : List Value := [.int .i64 x.n, .slice (some ⟨x.b, 0, none⟩) 256 x.c]
/-- Theirs. -/
def ims (L : List Im) : List Value := L.flatMap Im.cells
/-- What they say. -/
def say (L : List Im) : List (Nat × List Int) := L.map fun x => (x.n, x.z)

theorem ims_snoc (L : List Im) (x : Im) : ims (L ++ [x]) = ims L ++ x.cells := by simp [ims]
theorem ims_len (L : List Im) : (ims L).length = L.length * 2 := by
  induction L with
  | nil => rfl
  | cons x L ih =>
    show (x.cells ++ ims L).length = _
    rw [List.length_append, ih, List.length_cons]
    show 2 + _ = _
    omega
theorem ims_at {L : List Im} : ∀ {i : Nat} {x : Im}, L[i]? = some x → (ims L)[i * 2]? = some (.int .i64 x.n) ∧ (ims L)[i * 2 + 1]? = some (.slice (some ⟨x.b, 0, none⟩) 256 x.c) := by
  induction L with
  | nil => intro i x h; simp at h
  | cons y L ih =>
    intro i x h
    have e : ims (y :: L) = .int .i64 y.n :: .slice (some ⟨y.b, 0, none⟩) 256 y.c :: ims L := rfl
    rw [e]
    cases i with
    | zero =>
      simp at h
      subst h
      exact ⟨rfl, rfl⟩
    | succ i =>
      have := ih (i := i) (x := x) (by simpa using h)
      rw [show (i + 1) * 2 = i * 2 + 1 + 1 by omega]
      exact ⟨by simpa using this.1, by simpa using this.2⟩

/-- A slice of images that the call has made and owns. -/
def Igs (w : World) (base : Nat) (v : Value) (L : List Im) : Prop :=
  w.ownsRow base 66 2 v L.length (ims L) ∧ ∀ x ∈ L, Pg x.z ∧ x.n < 96 ∧ w.ownsRow base 5 1 (.slice (some ⟨x.b, 0, none⟩) 256 x.c) 256 (bv x.z)

theorem own_later {w w' : World} {base : Nat} {e : TypeId} {size : Nat} {v : Value} {n : Nat} {xs : List Value} (h : w.ownsRow base e size v n xs) (hb : Below w.heap.size w w') : w'.ownsRow base e size v n xs := by
  obtain ⟨hl, h⟩ := h
  refine ⟨hl, ?_⟩
  rcases h with h | ⟨g, cap, cur, rfl, h0, hh, r⟩
  · exact .inl h
  · exact .inr ⟨g, cap, cur, rfl, h0, (hb.block g (blk_lt hh)).trans hh, r⟩
theorem Igs.later {w w' : World} {base : Nat} {v : Value} {L : List Im} (h : Igs w base v L) (hb : Below w.heap.size w w') : Igs w' base v L :=
  ⟨own_later h.1 hb, fun x hx => ⟨(h.2 x hx).1, (h.2 x hx).2.1, own_later (h.2 x hx).2.2 hb⟩⟩
theorem Igs.mono {w : World} {base base' : Nat} {v : Value} {L : List Im} (h : Igs w base v L) (hb : base' ≤ base) : Igs w base' v L :=
  ⟨own_mono h.1 hb, fun x hx => ⟨(h.2 x hx).1, (h.2 x hx).2.1, own_mono (h.2 x hx).2.2 hb⟩⟩

/-- Two rows of different types lie apart. -/
theorem own_apart {w : World} {b1 b2 : Nat} {e1 e2 : TypeId} {s1 s2 : Nat} {v1 v2 : Value} {n1 n2 : Nat} {xs1 xs2 : List Value} (h1 : w.ownsRow b1 e1 s1 v1 n1 xs1) (h2 : w.ownsRow b2 e2 s2 v2 n2 xs2) (he : e1 ≠ e2) : v1.ownBlock = none ∨ v1.ownBlock ≠ v2.ownBlock := by
  rcases h1.2 with ⟨rfl, _⟩ | ⟨g1, c1, cur1, rfl, _, k1, _⟩
  · exact .inl rfl
  · right
    rcases h2.2 with ⟨rfl, _⟩ | ⟨g2, c2, cur2, rfl, _, k2, _⟩
    · simp [Value.ownBlock]
    · simp only [Value.ownBlock, ne_eq, Option.some.injEq]
      rintro rfl
      rw [k1] at k2
      simp at k2
      exact he k2.2

theorem infoIm : (Try.prog.info? 66).map (fun i => (i.zero, i.size, i.bytes)) = some (some (.agg #[.int .i64 0, .slice none 0 0]), 2, 32) := by kernel_rfl
theorem run_buildIm (W : World) (z : Int) (a : Option Addr) (n c : Nat) : (Instr.build 66 #[(0, .int .i64 z), (1, .slice a n c)]).run Try.prog W = .ok (.agg #[.int .i64 z, .slice a n c]) W := by kernel_rfl

section
variable {w : World} {o : Oper} {a : Act} {Q : Exit → Act → World → Prop} {ops : Array Oper} {rest : List Oper}

/-- 'api.Image{..}'. -/
theorem wpList_buildIm (hg : o.guard = none) (x y : Operand) (hop : o.op = Op.build 66 #[(0, x), (1, y)]) (z : Int) (p : Option Addr) (n c : Nat) (hx : a.eval x = .int .i64 z) (hy : a.eval y = .slice p n c)
    (hK : wpList Try.prog ops Q rest (a.put o.dst (.agg #[.int .i64 z, .slice p n c])) w) : wpList Try.prog ops Q (o :: rest) a w := by
  refine wpList_plain hg fun K' hK' => ?_
  have he : (execOp a.eval o).run Try.prog w = .ok (.value (.agg #[.int .i64 z, .slice p n c])) w := by
    simp only [execOp, hop, Sem.run_bind, List.map_toArray, List.map_cons, List.map_nil, hx, hy, run_buildIm, Result.andThen_ok]
    rfl
  unfold Oper.wp
  rw [he]
  exact hK' _ _ hK

/-- '[]T{x}'. -/
theorem wpList_buildN (hg : o.guard = none) (t e : TypeId) (z : Value) (size by_ : Nat) (ht : Try.prog.underlying t = some (.slice e)) (hinfo : (Try.prog.info? e).map (fun i => (i.zero, i.size, i.bytes)) = some (some z, size, by_)) (_hz : z.cells.size = size) (hs0 : 0 < size) (hs1 : size ≤ 1000) (y : Operand)
    (hop : o.op = Op.buildSlice t 1 #[(0, y)]) (u : Value) (hu : a.eval y = u) (h1 : u.cells.size = size)
    (h : wpList Try.prog ops Q rest (a.put o.dst (.slice (some ⟨w.heap.size, 0, none⟩) 1 1)) (w.alloc (.cells u.cells e))) : wpList Try.prog ops Q (o :: rest) a w := by
  refine wpList_plain hg fun _ hK => ?_
  obtain ⟨i0, hi, hz0, hz1, hz2⟩ := info_parts hinfo
  refine wp_buildSlice t e 1 #[(0, y)] hop u.cells i0 z ht hi hz0 (by rw [hz1]; omega) (by rw [hz1]; omega) ?_ (hK _ _ h)
  rw [hz1]
  have hf := Great.fill_whole hs0 [u] ((Array.range (1 * size)).map (z.cells[· % z.cells.size]!)) (by intro v hv; rw [List.mem_singleton] at hv; rw [hv]; exact h1) (by simp)
  simpa [hu] using hf

/-- 'append(own, x)' of one element that was laid. -/
theorem wpList_appN (hg : o.guard = none) (t e : TypeId) (z : Value) (size by_ : Nat) (ht : Try.prog.underlying t = some (.slice e)) (hinfo : (Try.prog.info? e).map (fun i => (i.zero, i.size, i.bytes)) = some (some z, size, by_)) (hz : z.cells.size = size) (hs0 : 0 < size) (s x : Operand)
    (hop : o.op = .call { callee := .builtin .append, args := #[s, x], argTypes := #[t, t] }) (B : Nat) (v : Value) (k : Nat) (l : List Value) (c : Nat) (cs : Array Value) (hs : a.eval s = v) (hx : a.eval x = .slice (some ⟨c, 0, none⟩) 1 1)
    (hk : (k + 1) * by_ ≤ 140737488355328) (hk2 : k + 1 ≤ 140737488355328) (hown : w.ownsRow B e size v k l) (hc : w.heap[c]? = some (.cells cs e (0, 0))) (hcs : cs.size = size) (h1 : ∀ u ∈ cs.toList, u.oneCell' = true) (hB : B ≤ w.heap.size)
    (h : ∀ v' w', w'.ownsRow B e size v' (k + 1) (l ++ cs.toList) → w.grownBy w' v.ownBlock → wpList Try.prog ops Q rest (a.put o.dst v') w') : wpList Try.prog ops Q (o :: rest) a w := by
  refine wpList_plain hg fun _ hK => ?_
  obtain ⟨i0, hi, hz0, hz1, hz2⟩ := info_parts hinfo
  refine wp_append_own w s x t hop B e i0 z size by_ ht hi hz0 hz1 hz2 hz hs0 v k l hs hown ⟨c, 0, none⟩ 1 1 cs.toList hx (by simp [hcs]) ?_ h1 (by unfold maxLen; omega) hk hB (fun v' w' h2 h3 _ => hK _ _ (h v' w' h2 h3))
  intro j u hj
  rw [add_plain, Nat.zero_add]
  exact cell_blk hc (by simpa using hj)
end

theorem changes_nil (w : World) :
    Calls Try.prog 18 #[.pointer none] w fun e w' => e = .returned (.slice none 0 0) ∧ w' = w := by
  go_enter Try.func18, Try.ntmps18
  go_wp2_with fail
  go_ret
  exact ⟨rfl, rfl⟩

set_option maxHeartbeats 2000000 in
theorem changes_any {w : World} {g : Nat} {u : Value} {m f : Nat → Option (List Int)} {vs : List Value} (h : Sheet w g u m vs) (hs : Src w u f) :
    Calls Try.prog 18 #[.pointer (some ⟨g, 0, none⟩)] w fun e w' => ∃ v L, e = .returned v ∧ Igs w' w.heap.size v L ∧ say L = chs m f 96 ∧ Below w.heap.size w w' := by
  have HH := hide h
  have HS := hide hs
  clear h hs
  go_enter Try.func18, Try.ntmps18
  go_wp2_with fail
  go_loopw [3, 7] (fun l i wr => ∃ (k : Nat) (L : List Im), k ≤ 96 ∧ i = .int .i64 k ∧ Hid (Igs wr w.heap.size l L) ∧ Hid (say L = chs m f k) ∧ Hid (Below w.heap.size w wr)) (fun _ i _ => 96 - (RowKit.intOf i).toNat)
  case atStart => exact ⟨0, [], by omega, rfl, ⟨World.ownsRow_nil _ _ _ _, fun x hx => by cases hx⟩, (chs_zero m f).symm, Below.refl _ _⟩
  case round =>
    obtain ⟨k, L, hk, rfl, HL, HC, HB⟩ := hrel
    by_cases hlt : k < 96
    · go_wp2_with fail
      refine (changed_any (HH.out.later HB.out) (HS.out.later HB.out) k hlt).mono ?_
      rintro e W1 ⟨rfl, hb⟩
      have HB1 := hide (HB.out.trans (hb.mono HB.out.size))
      have HL1 := hide (HL.out.later hb)
      have HLL : Hid (L.length ≤ 96) := by
        have h1 := chs_len m f k
        rw [← HC.out, say, List.length_map] at h1
        exact Nat.le_trans h1 hk
      cases hch : chOf m f k with
      | none =>
        have HC1 : Hid (say L = chs m f (k + 1)) := by show _ = _; rw [chs_succ, hch, HC.out]; simp
        clear hb hch HL HC HB
        go_wp2_with fail
        go_roundw
        case rel => exact ⟨k + 1, L, by omega, by go_num, HL1, HC1, HB1⟩
        case measure => simp [RowKit.intOf]; omega
      | some q =>
        obtain ⟨zs, b, hm, hz, hp, hpk⟩ : ∃ zs b, m k = some zs ∧ Pg zs ∧ vs.getD (k + 1) undef = .pointer (some ⟨b, 0, none⟩) ∧ Pk w b zs := by
          rcases HH.out.pages k hlt with ⟨h1, h2⟩ | ⟨zs, b, h1, h2, h3, h4⟩
          · simp [chOf, h1] at hch
          · exact ⟨zs, b, h1, h2, h3, h4⟩
        have hq : q = (k, zs) := by
          unfold chOf at hch
          rw [hm] at hch
          dsimp only at hch
          split at hch
          · cases hch
          · exact (Option.some.inj hch).symm
        subst hq
        have c0 := (HH.out.later HB1.out).at_.cell (i := 1 + k) (by rw [HH.out.len]; omega)
        rw [Nat.add_comm 1 k, hp, Nat.add_comm k 1] at c0
        have HV := hide (Pk.sl (Tb.later hpk HB1.out) hz)
        have HZ := hide hz
        clear hb hm hz hp hpk HL HB
        have HCh := hide hch
        clear hch
        go_wp2_with fail
        refine (clone_any HV.out HZ.out).mono ?_
        rintro e W2 ⟨r, rfl, ho, hb⟩
        obtain ⟨g2, cp2, cur2, rfl, hh2⟩ : ∃ g2 cp2 cur2, r = .slice (some ⟨g2, 0, none⟩) 256 cp2 ∧ W2.heap[g2]? = some (.cells cur2 5 (0, 0)) := by
          rcases ho.2 with ⟨-, h0⟩ | ⟨g2, cp2, cur2, rfl, _, hh, _⟩
          · omega
          · exact ⟨g2, cp2, cur2, rfl, hh⟩
        have HO := hide (own_mono ho HB1.out.size)
        have HB2 := hide (HB1.out.trans (hb.mono HB1.out.size))
        have HL2 := hide (HL1.out.later hb)
        clear ho hb HB1 HL1 hh2 c0 HV
        go_wp2_with (first
          | (refine wpList_buildIm rfl (.tmp 14) (.tmp 23) rfl (k : Int) (some ⟨g2, 0, none⟩) 256 cp2 rfl rfl ?_)
          | (refine wpList_buildN rfl 45 66 _ 2 32 Try.underlying45 infoIm rfl (by omega) (by omega) (.tmp 24) rfl (.agg #[.int .i64 (k : Int), .slice (some ⟨g2, 0, none⟩) 256 cp2]) rfl rfl ?_)
          | (at_builtin; refine wpList_appN rfl 45 66 _ 2 32 Try.underlying45 infoIm rfl (by omega) (.tmp 13) (.tmp 25) rfl w.heap.size _ L.length (ims L) W2.heap.size #[.int .i64 (k : Int), .slice (some ⟨g2, 0, none⟩) 256 cp2] rfl rfl (by have := HLL.out; omega) (by have := HLL.out; omega) (HL2.out.1.alloc _) (heap_alloc_new W2 _) rfl (by intro u hu; simp at hu; rcases hu with rfl | rfl <;> rfl) (by have := HB2.out.size; simp [World.size_alloc]; omega) ?_; intro v' w' ho' hg'))
        have hg2 : (W2.alloc (.cells #[.int .i64 (k : Int), .slice (some ⟨g2, 0, none⟩) 256 cp2] 66)).grownBy w' u3.ownBlock := hg'
        have hr3 := HL2.out.1
        have hkeep : ∀ {x : Value} {zs : List Int}, W2.ownsRow w.heap.size 5 1 x 256 (bv zs) → w'.ownsRow w.heap.size 5 1 x 256 (bv zs) := fun {x zs} hx => (hx.alloc _).kept hg2 (own_apart hx hr3 (by decide))
        have HL3 : Hid (Igs w' w.heap.size v' (L ++ [⟨k, g2, cp2, zs⟩])) := by
          refine ⟨?_, fun x hx => ?_⟩
          · rw [List.length_append, ims_snoc]
            exact ho'
          · rcases List.mem_append.1 hx with hx | hx
            · exact ⟨(HL2.out.2 x hx).1, (HL2.out.2 x hx).2.1, hkeep (HL2.out.2 x hx).2.2⟩
            · rw [List.mem_singleton.1 hx]
              exact ⟨HZ.out, hlt, hkeep HO.out⟩
        have HC3 : Hid (say (L ++ [⟨k, g2, cp2, zs⟩]) = chs m f (k + 1)) := by
          show _ = _
          rw [chs_succ, HCh.out, ← HC.out]
          simp [say]
        have HB3 : Hid (Below w.heap.size w w') := (HB2.out.alloc HB2.out.size _).grown hg2 (by have := HB2.out.size; simp [World.size_alloc]; omega) (fun j hj => (hr3.lt j hj).1)
        clear ho' hg' hg2 hr3 HL2 HB2 HC HCh HO hkeep
        go_roundw
        case rel => exact ⟨k + 1, _, by omega, by go_num, HL3, HC3, HB3⟩
        case measure => simp [RowKit.intOf]; omega
    · obtain rfl : k = 96 := by omega
      go_wp2_with fail
      go_ret
      exact ⟨_, L, rfl, HL.out, HC.out, HB.out⟩
end Go.Proofs.Ytiggannhanfolaa
