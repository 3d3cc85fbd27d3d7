/-
  Contract of super's lay: a text written to some sectors, then a Flush.
-/
import Derived.Test.YtiaicpdbobgkoaaDoorSupU
import Derived.Test.YtiaicpdbobgkoaaDoorDevC
namespace Go.Proofs.YtiaicpdbobgkoaaDoor
open Go.RowKit Go.Maps
set_option linter.unusedVariables false

/-- s to the sectors, then a Flush, as long as the device lives. -/
def layF (s : List Int) : List Nat → Dv → Bool × Dv
  | [], d => if d.dead then (false, d) else (true, d.flush)
  | i :: r, d => if d.dead then (false, d) else layF s r (d.write i s)

/-- How it ends. -/
def erD (b : Bool) : Int := if b then 0 else 5

/-- A block of ints. -/
def Ns (w : World) (b : Nat) (is : List Nat) : Prop := w.heap[b]? = some (.cells (li is).toArray 3 (0, 0))

theorem DevAt.ints {w : World} {g bl bm b : Nat} {d : Dv} {is : List Nat} (h : DevAt w g bl bm d) (hn : Ns w b is) : b ≠ g ∧ b ≠ bl ∧ b ≠ bm := by
  obtain ⟨_, _, _, _, _, h⟩ := h
  obtain ⟨es, clock, hb, _⟩ := h.map
  refine ⟨fun e => ?_, fun e => ?_, fun e => ?_⟩
  · have := h.me; rw [← e, hn] at this; simp at this
  · have := h.row; rw [← e, hn] at this; simp at this
  · have := hb; rw [← e, hn] at this; simp at this

theorem DevAt.tab {w : World} {g bl bm : Nat} {d : Dv} (h : DevAt w g bl bm d) (ht : Tab w) : g ≠ 0 ∧ bl ≠ 0 ∧ bm ≠ 0 := by
  have h0 := ht 0 (by omega)
  obtain ⟨_, _, _, _, _, h⟩ := h
  obtain ⟨es, clock, hb, _⟩ := h.map
  refine ⟨fun e => ?_, fun e => ?_, fun e => ?_⟩
  · have := h.cells.1; rw [e, h0] at this; simp at this
  · have hs := (h.ok.sec 0 h.ok.pos).1
    have := h.last 0 h.ok.pos 0 ((bv (_ : List Int))[0]'(by rw [bv_len, hs]; omega)) (List.getElem?_eq_getElem _)
    rw [e, Nat.zero_mul, Nat.add_zero, h0] at this
    simp [bv] at this
  · rw [e] at hb
    simp [World.cell?, hb] at h0

/-- What a laying may turn. -/
def Dvs (g bl bm : Nat) (k : Nat) : Prop := k = g ∨ k = bl ∨ k = bm

set_option maxRecDepth 100000 in
set_option maxHeartbeats 1000000 in
theorem lay_any {w : World} {g bl bm b : Nat} {d : Dv} {is : List Nat} (h : DevAt w g bl bm d) (ht : Tab w) {t : Nat} {zs : List Int} (hf : Sp.Fits t zs) (hn : Ns w b is) (hi : ∀ i ∈ is, i < d.n) (hl : is.length ≤ 2) (hc : d.calls < 900000) :
    Calls Tryd.prog 22 #[.pointer (some ⟨g, 0, none⟩), .agg #[.int .i64 (t : Int), .string (strOfNums zs)], .slice (some ⟨b, 0, none⟩) is.length is.length] w fun e w' =>
      e = .returned (.int .i64 (erD (layF (Sp.pk t zs) is d).1)) ∧ ∃ bm', DevAt w' g bl bm' (layF (Sp.pk t zs) is d).2 ∧ (bm' = bm ∨ w.heap.size ≤ bm') ∧ But (Dvs g bl bm) w w' := by
  have H := hide h
  have HT := hide ht
  have HF := hide hf
  have HN := hide hn
  have HI := hide hi
  have hap := hide (h.ints hn)
  have hsec := hide (Sp.pk_sec hf)
  have hlt := hide h.lts
  clear h ht hf hn hi
  generalize hm : is.length = m at *
  have HM := hide hm
  clear hm
  generalize hW : w.alloc (Obj.cells #[Value.int IntKind.i64 (t : Int), Value.string (strOfNums zs)] 51) = W0
  have hB0 : Below w.heap.size w W0 := by rw [← hW]; exact (Below.refl _ _).alloc (Nat.le_refl _) _
  have hR0 : Rec W0 w.heap.size t zs := by rw [← hW]; exact heap_alloc_last w _
  have c0 := hR0.turn
  have c1 := hR0.text
  have H0 := hide hB0
  clear hB0 hR0
  go_enter Tryd.func22, Tryd.ntmps22
  go_wp2_with fail
  refine (pack_any t zs HF.out (HT.out.later H0.out)).mono ?_
  rintro e W1 ⟨p, rfl, hK1, hp1, hB1⟩
  have HB1 := hide (H0.out.trans (hB1.mono H0.out.size))
  have HP : Hid (w.heap.size ≤ p) := Nat.le_trans H0.out.size hp1
  have HK1 := hide hK1
  clear hK1 hp1 hB1 c0 c1 hW H0
  go_wp2_with fail
  go_loopw [15] (fun i wr => ∃ (k : Nat) (dk : Dv), k ≤ m ∧ i = .int .i64 k ∧ Hid (DevAt wr g bl bm dk) ∧ Hid (layF (Sp.pk t zs) is d = layF (Sp.pk t zs) (is.drop k) dk) ∧ Hid (But (Dvs g bl bm) w wr) ∧ Hid (Bk wr p (Sp.pk t zs)) ∧ Hid (dk.n = d.n ∧ dk.calls ≤ d.calls + k)) (fun i _ => m - (RowKit.intOf i).toNat)
  case atStart => exact ⟨0, d, by omega, rfl, H.out.later HB1.out, rfl, But.of HB1.out, HK1, ⟨rfl, by omega⟩⟩
  case round =>
    obtain ⟨k, dk, hk, rfl, HD, HE, HB, HK, HC⟩ := hrel
    have hKs : Hid (Sl wr (.slice (some ⟨p, 0, none⟩) 64 64) (Sp.pk t zs)) := by
      have := HK.out.sl (off := 0) (n := 64) (cap := 64) (by rw [hsec.out.1]; omega) (by omega) (by omega) hsec.out.2
      rw [List.drop_zero, List.take_of_length_le (by rw [hsec.out.1]; omega)] at this
      exact this
    have hpg : p ≠ g ∧ p ≠ bl ∧ p ≠ bm := by have := HP.out; have := hlt.out; omega
    by_cases hlt' : k < m
    · have hkl : k < is.length := by rw [HM.out]; exact hlt'
      have hce : wr.cell? ⟨b, k, none⟩ = some (.int .i64 ((is[k] : Nat) : Int)) := by
        have h1 : w.cell? ⟨b, k, none⟩ = some (.int .i64 ((is[k] : Nat) : Int)) := cell_blk HN.out (by simp [li, List.getElem?_eq_getElem hkl])
        rw [HB.out.cell (p := ⟨b, k, none⟩) (cell_lt h1) (by have := hap.out; unfold Dvs; dsimp only; omega)]
        exact h1
      have hin : is[k] < dk.n := by rw [HC.out.1]; exact HI.out _ (List.getElem_mem hkl)
      have hcd : dk.calls < 999999 := by have := HC.out.2; omega
      have hdr : is.drop k = is[k] :: is.drop (k + 1) := List.drop_eq_getElem_cons hkl
      cases hd : dk.dead
      · have HE' : Hid (layF (Sp.pk t zs) is d = layF (Sp.pk t zs) (is.drop (k + 1)) (dk.write is[k] (Sp.pk t zs))) := by
          show _ = _
          rw [HE.out, hdr]
          simp only [layF, hd]
          rfl
        have HC' : Hid ((dk.write is[k] (Sp.pk t zs)).n = d.n ∧ (dk.write is[k] (Sp.pk t zs)).calls ≤ d.calls + (k + 1)) := ⟨HC.out.1, by have := HC.out.2; simp only [Dv.write, Dv.next, Dv.lay]; omega⟩
        have Hd := hide hd
        have Hin := hide hin
        have Hhl := hide (Nat.le_of_eq hsec.out.1)
        clear hdr hd hin
        generalize is[k] = i at *
        go_wp2_with (first | (with_reducible refine (write_any HD.out Hd.out hcd Hin.out hKs.out Hhl.out).mono ?_; rintro e W2 ⟨rfl, h2, hb2⟩))
        have hb2' : But (Dvs g bl bm) wr W2 := hb2.mono fun k _ e => e.elim .inl fun e => .inr (.inr e)
        go_roundw
        case rel => exact ⟨k + 1, _, by omega, by go_num, h2, HE', HB.out.trans hb2', HK.out.but hb2' (by unfold Dvs; omega), HC'⟩
        case measure => simp [RowKit.intOf]; omega
      · have HE' : Hid (layF (Sp.pk t zs) is d = (false, dk)) := by
          show _ = _
          rw [HE.out, hdr]
          simp only [layF, hd]
          rfl
        have Hd := hide hd
        clear hdr hd hin
        generalize is[k] = i at *
        go_wp2_with (first | (with_reducible refine (write_dead HD.out Hd.out _ _).mono ?_; rintro e W2 ⟨rfl, rfl⟩))
        go_ret
        rw [HE'.out]
        exact ⟨rfl, bm, HD.out, .inl rfl, HB.out⟩
    · have hdr : is.drop k = [] := List.drop_eq_nil_of_le (by rw [HM.out]; omega)
      have hcd : dk.calls < 999999 := by have := HC.out.2; omega
      cases hd : dk.dead
      · have HE' : Hid (layF (Sp.pk t zs) is d = (true, dk.flush)) := by
          show _ = _
          rw [HE.out, hdr]
          simp only [layF, hd]
          rfl
        have Hd := hide hd
        clear hdr hd
        go_wp2_with (first | (with_reducible refine (flush_any HD.out Hd.out hcd).mono ?_; rintro e W2 ⟨rfl, bm2, h2, hm2, hb2⟩))
        go_ret
        rw [HE'.out]
        exact ⟨rfl, bm2, h2, .inr (Nat.le_trans HB.out.size hm2), HB.out.trans (hb2.mono fun k _ e => e.elim .inl fun e => .inr (.inl e))⟩
      · have HE' : Hid (layF (Sp.pk t zs) is d = (false, dk)) := by
          show _ = _
          rw [HE.out, hdr]
          simp only [layF, hd]
          rfl
        have Hd := hide hd
        clear hdr hd
        go_wp2_with (first | (with_reducible refine (flush_dead HD.out Hd.out).mono ?_; rintro e W2 ⟨rfl, rfl⟩))
        go_ret
        rw [HE'.out]
        exact ⟨rfl, bm, HD.out, .inl rfl, HB.out⟩
end Go.Proofs.YtiaicpdbobgkoaaDoor
