/-
  A text on two sectors in the model's memory; contracts of super's Open, Text, Turn.
-/
import Derived.Test.YtiaicpdbobgkoaaDoorSupL
import Derived.Test.YtiaicpdbobgkoaaDoorDevR
import Derived.BigRegion
import Derived.BigQuiet
namespace Go.Proofs.YtiaicpdbobgkoaaDoor
open Go.RowKit Go.Maps
set_option linter.unusedVariables false

/-- What a sector has: a text, or nothing. -/
def Is8 (s : List Int) (t : Nat) (zs : List Int) : Prop := (s = Sp.pk t zs ∧ Sp.Fits t zs) ∨ (s = nought ∧ t = 0 ∧ zs = [])

theorem Is8.sec {s : List Int} {t : Nat} {zs : List Int} (h : Is8 s t zs) : Sec s := by
  rcases h with ⟨rfl, h⟩ | ⟨rfl, -, -⟩
  · exact Sp.pk_sec h
  · exact sec_nought
theorem Is8.few {s : List Int} {t : Nat} {zs : List Int} (h : Is8 s t zs) : t ≤ 1000000 := by
  rcases h with ⟨-, h⟩ | ⟨-, rfl, -⟩
  · exact h.few
  · omega
theorem Is8.none {s : List Int} {t : Nat} {zs : List Int} (h : Is8 s t zs) (h0 : ¬ 0 < t) : t = 0 ∧ zs = [] := by
  rcases h with ⟨-, h⟩ | ⟨-, h⟩
  · have := h.pos; omega
  · exact h

theorem unpack_is {w : World} {b t : Nat} {zs s : List Int} (h : Box w b s) (hs : Is8 s t zs) (ht : Tab w) :
    Calls Tryd.prog 23 #[.slice (some ⟨b, 0, none⟩) 64 64] w fun e w' => e = .returned (.agg #[.int .i64 (t : Int), .string (strOfNums zs)]) ∧ Below w.heap.size w w' := by
  have h1 := h.sl hs.sec
  rcases hs with ⟨rfl, hf⟩ | ⟨rfl, rfl, rfl⟩
  · exact unpack_pk h1 hf ht
  · exact unpack_nought h1

/-- The struct. -/
def Su (w : World) (sb g at_ now t : Nat) (zs : List Int) : Prop := w.heap[sb]? = some (.cells #[.pointer (some ⟨g, 0, none⟩), .int .i64 (at_ : Int), .int .i64 (now : Int), .int .i64 (t : Int), .string (strOfNums zs)] 53 (0, 0))

theorem Su.lt {w : World} {sb g at_ now t : Nat} {zs : List Int} (h : Su w sb g at_ now t zs) : sb < w.heap.size := blk_lt h
theorem Su.but {w w' : World} {sb g at_ now t : Nat} {zs : List Int} {S : Nat → Prop} (h : Su w sb g at_ now t zs) (hb : But S w w') (hs : ¬ S sb) : Su w' sb g at_ now t zs := (hb.block sb h.lt hs).trans h
theorem Su.later {w w' : World} {sb g at_ now t : Nat} {zs : List Int} (h : Su w sb g at_ now t zs) (hb : Below w.heap.size w w') : Su w' sb g at_ now t zs := (hb.block sb h.lt).trans h
theorem Su.cells {w : World} {sb g at_ now t : Nat} {zs : List Int} (h : Su w sb g at_ now t zs) :
    w.cell? ⟨sb, 0, none⟩ = some (.pointer (some ⟨g, 0, none⟩)) ∧ w.cell? ⟨sb, 1, none⟩ = some (.int .i64 (at_ : Int)) ∧ w.cell? ⟨sb, 2, none⟩ = some (.int .i64 (now : Int)) ∧ w.cell? ⟨sb, 3, none⟩ = some (.int .i64 (t : Int)) ∧ w.cell? ⟨sb, 4, none⟩ = some (.string (strOfNums zs)) :=
  ⟨cell_blk h rfl, cell_blk h rfl, cell_blk h rfl, cell_blk h rfl, cell_blk h rfl⟩
theorem Su.set {w : World} {sb g at_ now t : Nat} {zs : List Int} (h : Su w sb g at_ now t zs) (now' t' : Nat) (zs' : List Int) :
    Su (((w.setCell ⟨sb, 3, none⟩ (.int .i64 (t' : Int))).setCell ⟨sb, 4, none⟩ (.string (strOfNums zs'))).setCell ⟨sb, 2, none⟩ (.int .i64 (now' : Int))) sb g at_ now' t' zs' := by
  unfold Su at h ⊢
  rw [heap_setCell_same (heap_setCell_same (heap_setCell_same h _) _) _]
  rfl
theorem Su.dev {w : World} {sb g at_ now t g' bl' bm' : Nat} {zs : List Int} {d : Dv} (h : Su w sb g at_ now t zs) (hd : DevAt w g' bl' bm' d) : sb ≠ g' ∧ sb ≠ bl' ∧ sb ≠ bm' := by
  obtain ⟨_, _, _, _, _, hd⟩ := hd
  obtain ⟨es, clock, hb, _⟩ := hd.map
  refine ⟨fun e => ?_, fun e => ?_, fun e => ?_⟩
  · have := hd.me; rw [← e, h] at this; simp at this
  · have := hd.row; rw [← e, h] at this; simp at this
  · have := hb; rw [← e, h] at this; simp at this
theorem Su.tab {w : World} {sb g at_ now t : Nat} {zs : List Int} (h : Su w sb g at_ now t zs) (ht : Tab w) : sb ≠ 0 := by
  intro e
  have h0 := ht 0 (by omega)
  have := h.cells.1
  rw [e, h0] at this
  simp at this

theorem text_nil (w : World) : Calls Tryd.prog 14 #[.pointer none] w fun e w' => e = .returned (.slice none 0 0) ∧ w' = w := by
  go_enter Tryd.func14, Tryd.ntmps14
  go_wp2_with fail
  go_ret
  exact ⟨rfl, rfl⟩

theorem turn_nil (w : World) : Calls Tryd.prog 15 #[.pointer none] w fun e w' => e = .returned (.int .i64 0) ∧ w' = w := by
  go_enter Tryd.func15, Tryd.ntmps15
  go_wp2_with fail
  go_ret
  exact ⟨rfl, rfl⟩

theorem save_nil (w : World) (v : Value) : Calls Tryd.prog 11 #[.pointer none, v] w fun e w' => e = .returned (.int .i64 5) ∧ w' = w := by
  go_enter Tryd.func11, Tryd.ntmps11
  go_wp2_with fail
  go_ret
  exact ⟨rfl, rfl⟩

theorem turn_any {w : World} {sb g at_ now t : Nat} {zs : List Int} (h : Su w sb g at_ now t zs) : Calls Tryd.prog 15 #[.pointer (some ⟨sb, 0, none⟩)] w fun e w' => e = .returned (.int .i64 (t : Int)) ∧ w' = w := by
  obtain ⟨-, -, -, c3, -⟩ := h.cells
  clear h
  go_enter Tryd.func15, Tryd.ntmps15
  go_wp2_with fail
  go_ret
  exact ⟨rfl, rfl⟩

set_option maxHeartbeats 400000 in
theorem text_any {w : World} {sb g at_ now t : Nat} {zs : List Int} (h : Su w sb g at_ now t zs) (hf : Sp.Fits t zs) : Calls Tryd.prog 14 #[.pointer (some ⟨sb, 0, none⟩)] w fun e w' => ∃ v, e = .returned v ∧ Sl w' v zs ∧ Below w.heap.size w w' := by
  obtain ⟨-, -, -, -, c4⟩ := h.cells
  have Hf := hide hf
  clear h hf
  have kc := fun (W : World) => Lib.run_convert_string_bytes (P := Tryd.prog) W 9 30 5 (strOfNums zs) Tryd.underlying9 Tryd.underlying30 Tryd.underlying5
  go_enter Tryd.func14, Tryd.ntmps14
  go_wp2_with fail
  go_ret
  exact ⟨_, rfl, conv_text _ zs Hf.out.bd (by have := Hf.out.len; omega), conv_below _ _⟩

/-- Of two sectors the later one. -/
def pick (t0 : Nat) (z0 : List Int) (t1 : Nat) (z1 : List Int) : Nat → Nat × Nat × List Int
  | 0 => (0, 0, [])
  | 1 => (0, t0, z0)
  | _ => if t0 < t1 then (1, t1, z1) else (0, t0, z0)

theorem read_at {w : World} {g bl bm : Nat} {d : Dv} (h : DevAt w g bl bm d) {z : Int} {i : Nat} (hz : z = (i : Int)) (hi : i < d.n) :
    Calls Tryd.prog 19 #[.pointer (some ⟨g, 0, none⟩), .int .i64 z] w fun e w' => ∃ b, e = .returned (.tuple #[.slice (some ⟨b, 0, none⟩) 64 64, .int .i64 0]) ∧ Box w' b (d.at_ i) ∧ w.heap.size ≤ b ∧ Below w.heap.size w w' := by
  subst hz
  exact read_any h hi

set_option maxRecDepth 100000 in
set_option maxHeartbeats 2000000 in
theorem open_both {w : World} {g bl bm at_ : Nat} {d : Dv} (h : DevAt w g bl bm d) (ht : Tab w) (ha : at_ + 1 < d.n) {t0 t1 : Nat} {z0 z1 : List Int} (h0 : Is8 (d.at_ at_) t0 z0) (h1 : Is8 (d.at_ (at_ + 1)) t1 z1) :
    Calls Tryd.prog 12 #[.pointer (some ⟨g, 0, none⟩), .int .i64 (at_ : Int)] w fun e w' =>
      ((pick t0 z0 t1 z1 2).2.1 = 0 ∧ e = .returned (.tuple #[.pointer none, .int .i64 8]) ∨ 0 < (pick t0 z0 t1 z1 2).2.1 ∧ ∃ sb, e = .returned (.tuple #[.pointer (some ⟨sb, 0, none⟩), .int .i64 0]) ∧ Su w' sb g at_ (pick t0 z0 t1 z1 2).1 (pick t0 z0 t1 z1 2).2.1 (pick t0 z0 t1 z1 2).2.2 ∧ w.heap.size ≤ sb) ∧ Below w.heap.size w w' := by
  have H := hide h
  have HT := hide ht
  have hmost := h.ok.most
  have HS0 := hide h0
  have HS1 := hide h1
  have hgb : (decide (0 ≤ (at_ : Int)) && decide ((at_ : Int) < (d.n : Int) - 1)) = true := by simp; omega
  generalize hW : w.alloc (Obj.cells #[Value.pointer (some ⟨g, 0, none⟩), Value.int IntKind.i64 (at_ : Int), Value.int IntKind.i64 0, Value.int IntKind.i64 0, Value.string { data := #[] }] 53) = W0
  have hB0 : Below w.heap.size w W0 := by rw [← hW]; exact (Below.refl _ _).alloc (Nat.le_refl _) _
  have hU0 : Su W0 w.heap.size g at_ 0 0 [] := by rw [← hW]; exact heap_alloc_last w _
  have HB0 := hide hB0
  have HU0 := hide hU0
  clear h ht h0 h1 hB0 hU0
  go_enter Tryd.func12, Tryd.ntmps12
  go_wp2_with (first | (with_reducible refine (shas_any H.out _).mono ?_; rintro e w ⟨rfl, rfl⟩; rw [hgb]))
  clear hW
  go_loopw [19] (fun i wr => ∃ (k nw tt : Nat) (zz : List Int), k ≤ 2 ∧ i = .int .i64 k ∧ Hid (pick t0 z0 t1 z1 k = (nw, tt, zz)) ∧ Hid (Su wr w.heap.size g at_ nw tt zz) ∧ Hid (Below w.heap.size w wr)) (fun i _ => 2 - (RowKit.intOf i).toNat)
  case atStart => exact ⟨0, 0, 0, [], by omega, rfl, rfl, HU0, HB0⟩
  case round =>
    obtain ⟨k, nw, tt, zz, hk, rfl, HP, HU, HB⟩ := hrel
    clear HU0 HB0
    by_cases hlt : k < 2
    · have Hdev : Hid (DevAt wr g bl bm d) := H.out.later HB.out
      obtain ⟨t', z', hs'⟩ : ∃ t' z', Hid (Is8 (d.at_ (at_ + k)) t' z' ∧ pick t0 z0 t1 z1 (k + 1) = if tt < t' then (k, t', z') else (nw, tt, zz)) := by
        have hk' : k = 0 ∨ k = 1 := by omega
        rcases hk' with rfl | rfl
        · refine ⟨t0, z0, HS0.out, ?_⟩
          have := HP.out
          simp only [pick] at this
          cases this
          by_cases h0 : 0 < t0
          · rw [if_pos h0]; rfl
          · rw [if_neg h0]
            obtain ⟨rfl, rfl⟩ := HS0.out.none h0
            rfl
        · refine ⟨t1, z1, HS1.out, ?_⟩
          have := HP.out
          simp only [pick] at this
          cases this
          rfl
      go_wp2_with (first
        | (refine (read_at Hdev.out (i := at_ + k) (by go_num) (by omega)).mono ?_; rintro e W1 ⟨b1, rfl, hx1, hb1, hB1⟩))
      have hBw1 := HB.out.trans (hB1.mono HB.out.size)
      refine (unpack_is hx1 hs'.out.1 (HT.out.later hBw1)).mono ?_
      rintro e W2 ⟨rfl, hB2⟩
      have hBr2 : Below wr.heap.size wr W2 := hB1.trans (hB2.mono hB1.size)
      have hB3 : Below W2.heap.size W2 (W2.alloc (Obj.cells #[Value.int IntKind.i64 (t' : Int), Value.string (strOfNums z')] 51)) := (Below.refl _ _).alloc (Nat.le_refl _) _
      have hR3 : Rec (W2.alloc (Obj.cells #[Value.int IntKind.i64 (t' : Int), Value.string (strOfNums z')] 51)) W2.heap.size t' z' := heap_alloc_last W2 _
      have hU3 := (HU.out.later hBr2).later hB3
      have hBw3 := hBw1.trans ((hB2.trans (hB3.mono hB2.size)).mono hBw1.size)
      have HU3 := hide hU3
      have HB3 := hide hBw3
      have HR3 := hide hR3
      have ht3 := hs'.out.1.few
      clear hB1 hB2 hB3 hx1 hb1 hBw1 hBr2 hU3 hBw3 hR3 HU HB HP
      generalize hW3 : W2.alloc (Obj.cells #[Value.int IntKind.i64 (t' : Int), Value.string (strOfNums z')] 51) = W3 at *
      obtain ⟨-, -, c2, c3, c4⟩ := HU3.out.cells
      have r0 := HR3.out.turn
      have r1 := HR3.out.text
      have f2 := frozen_blk 2 HU3.out
      have f3 := frozen_blk 3 HU3.out
      have f4 := frozen_blk 4 HU3.out
      have hsz : w.heap.size ≤ W3.heap.size := HB3.out.size
      have hsl : w.heap.size < W3.heap.size := HU3.out.lt
      by_cases hgt : tt < t'
      · have hg : decide ((t' : Int) > (tt : Int)) = true := by simp; omega
        have HQ : Hid (pick t0 z0 t1 z1 (k + 1) = (k, t', z')) := by
          show _ = _
          rw [hs'.out.2, if_pos hgt]
        clear hs' hg
        go_wp2_with fail
        clear hW3
        go_region
        go_wp2_with fail
        go_roundw
        case rel => exact ⟨k + 1, k, t', z', by omega, by go_num, HQ, HU3.out.set k t' z', Below.drew (Below.setCell (p := ⟨w.heap.size, 2, none⟩) (Below.setCell (p := ⟨w.heap.size, 4, none⟩) (Below.setCell (p := ⟨w.heap.size, 3, none⟩) HB3.out (Nat.le_refl _) _) (Nat.le_refl _) _) (Nat.le_refl _) _)⟩
        case measure => simp [RowKit.intOf]; omega
      · have hg : decide ((t' : Int) > (tt : Int)) = false := by simp; omega
        have HQ : Hid (pick t0 z0 t1 z1 (k + 1) = (nw, tt, zz)) := by
          show _ = _
          rw [hs'.out.2, if_neg hgt]
        clear hs' hg
        go_wp2_with fail
        clear hW3
        go_region
        go_wp2_with fail
        go_roundw
        case rel => exact ⟨k + 1, nw, tt, zz, by omega, by go_num, HQ, HU3, HB3.out.drew⟩
        case measure => simp [RowKit.intOf]; omega
    · have hk2 : k = 2 := by omega
      have HQ : Hid (pick t0 z0 t1 z1 2 = (nw, tt, zz)) := by
        show _ = _
        rw [← hk2]
        exact HP.out
      obtain ⟨-, -, -, c3, -⟩ := HU.out.cells
      clear hk2 HP
      by_cases h0 : tt = 0
      · have hg : ((tt : Int) == 0) = true := by simp; omega
        go_wp2_with fail
        go_ret2
        rw [HQ.out]
        exact ⟨.inl ⟨h0, rfl⟩, HB.out⟩
      · have hg : ((tt : Int) == 0) = false := by simp; omega
        go_wp2_with fail
        go_ret2
        rw [HQ.out]
        exact ⟨.inr ⟨by show 0 < tt; omega, _, rfl, HU.out, Nat.le_refl _⟩, HB.out⟩
end Go.Proofs.YtiaicpdbobgkoaaDoor
