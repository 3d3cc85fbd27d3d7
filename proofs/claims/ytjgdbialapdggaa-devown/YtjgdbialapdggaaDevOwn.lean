/-
  For every slice of bytes DevOwn returns true: what is handed to Write (64 bytes at most) and what Read tells is nobody else's, and a device stays as it was when the device of its Crash is written. No condition.
-/
import Derived.Test.YtjgdbialapdggaaRows
import Derived.WalkKit
import Derived.ProofKit
import Derived.OpenShut
import Derived.ShutString
import Derived.ChangeOld
import Derived.Below
import Derived.Test.YtjgdbialapdggaaDevB
import Derived.Test.YtjgdbialapdggaaSho
import Derived.Test.YtjgdbialapdggaaInf
namespace Go.Proofs.Ytjgdbialapdggaa.devOwn
open Go.ChangeShapes Go.WideShapes Go.ChangeAt Go.RowKit
open Go.ChangeMaps (open_string shut_string)
set_option linter.unusedVariables false

theorem own : ownKnob Try.prog.godebug = none := by kernel_rfl
theorem laidOut : laidOutB Try.prog = true := by kernel_rfl

/-- WHAT THE WALK IS TOLD OF A SLICE OF INTEGERS THAT CAME IN: it is nil; or it leads to a row of 'cap' cells, the numbers 'zs' (the first 'len' are its elements, the rest its spare room), each fitting its kind. -/
def IsRow (k : IntKind) (w : World) (a : Option Addr) (len cap : Nat) (zs : List Int) : Prop :=
  (a = none ∧ len = 0 ∧ cap = 0 ∧ zs = []) ∨
  ∃ x, a = some x ∧ len ≤ cap ∧ cap ≤ maxLen ∧ zs.length = cap ∧ (∀ i, i < zs.length → w.cell? (x.add i) = some (.int k (zs.getD i 0))) ∧ ∀ n ∈ zs, (Lit.int k n).wf = true

theorem row_sl {w : World} {a : Option Addr} {len cap : Nat} {zs : List Int} (h : IsRow .u8 w a len cap zs) : Sl w (.slice a len cap) (zs.take len) := by
  rcases h with ⟨rfl, rfl, rfl, rfl⟩ | ⟨x, rfl, hl, hm, hz, hcell, hwz⟩
  · exact Sl.nil _
  · have hlen : (zs.take len).length = len := by simp; omega
    refine ⟨some x, cap, by rw [hlen], by rw [hlen]; omega, hm, fun z hz' => bounds_u8 (hwz z (List.mem_of_mem_take hz')), fun i hi => ?_⟩
    rw [hlen] at hi
    have hc := hcell i (by omega)
    have hc0 := hcell 0 (by omega)
    obtain ⟨b, off, spot⟩ := x
    have hspot : spot = none := by simpa [Addr.add] using World.cell?_spot hc0
    subst hspot
    rw [add_plain] at hc
    exact ⟨b, off, rfl, by rw [hc]; simp [List.getD, List.getElem?_take_of_lt hi]⟩

/-- 'make([]byte, n)', one of the operations of a region that draws. -/
theorem wp_make8 {o : Oper} {a : Act} {w : World} {K : Act → World → Prop} {Q : Exit → Act → World → Prop} (x : Operand) (hop : o.op = Op.makeSlice 31 x x) (n : Nat) (hx : a.eval x = .int .i64 (n : Int)) (hn : n ≤ 64)
    (h : ∀ w' v, Sl w' v (List.replicate n 0) → Below w.heap.size w w' → K (a.put o.dst v) w') : o.wp Try.prog a w K Q := by
  obtain ⟨i0, hi, hz0, hz1, hz2⟩ := info_parts Try.info5
  obtain ⟨w', hrun, r1, r2⟩ := run_make_full (P := Try.prog) w w.heap.size 31 5 i0 _ 1 Try.underlying31 hi hz0 hz1 .i64 .i64 n (by rw [hz2]; omega) (by unfold maxLen; omega) (Nat.le_refl _)
  unfold Oper.wp
  simp [execOp, hop, hx, hrun, Result.andThen, Oper.upon]
  refine h w' _ (Sl.own (e := 5) (base := w.heap.size) (n := n) ?_ (fun z hz => by simp at hz; omega)) ((Below.refl _ _).grown r2 (Nat.le_refl _) (fun k hk => by cases hk))
  have e : (madeCells (Value.int .u8 0).cells (n * 1)).toList = bv (List.replicate n 0) := by
    rw [show (Value.int .u8 0).cells = #[.int .u8 0] from rfl, toList_madeCells_one]
    simp [bv]
  rw [e] at r1
  exact r1

theorem own_at {w w' : World} {base : Nat} {e : TypeId} {v : Value} {n : Nat} {vs : List Value} {S : Nat → Prop} (h : w.ownsRow base e 1 v n vs) (hb : But S w w') (hs : ∀ k, v.ownBlock = some k → ¬ S k) : w'.ownsRow base e 1 v n vs := by
  obtain ⟨hl, h⟩ := h
  refine ⟨hl, ?_⟩
  rcases h with h | ⟨g, cap, cur, rfl, hbase, hh, r⟩
  · exact .inl h
  · exact .inr ⟨g, cap, cur, rfl, hbase, (hb.block g (blk_lt hh) (hs g rfl)).trans hh, r⟩

/-- A cell of bytes of the call's own. -/
theorem own_cell {w : World} {base g n cap : Nat} {e : TypeId} {ys : List Int} (h : w.ownsRow base e 1 (.slice (some ⟨g, 0, none⟩) n cap) n (bv ys)) {k : Nat} (hk : k < n) : w.cell? ⟨g, k, none⟩ = some (.int .u8 (ys.getD k 0)) := by
  have hl : ys.length = n := by have := h.1; rw [bv_len] at this; omega
  rw [h.cellAt k (by omega), getD_at (by omega)]
  simp [bv, List.getElem?_eq_getElem (show k < ys.length by omega)]

theorem own_set {w : World} {base g n cap : Nat} {e : TypeId} {ys : List Int} (h : w.ownsRow base e 1 (.slice (some ⟨g, 0, none⟩) n cap) n (bv ys)) (k : Nat) (z : Int) : (w.setCell ⟨g, k, none⟩ (.int .u8 z)).ownsRow base e 1 (.slice (some ⟨g, 0, none⟩) n cap) n (bv (ys.set k z)) := by
  have := (h.stored k (.int .u8 z)).1
  rw [bv_set] at this
  exact this

theorem over_full (Z : List Int) : Z ++ List.replicate (64 - Z.length) 0 = over Z nought := by rw [over, nought, List.drop_replicate]

def o1 (Z : List Int) : Dv := (Dv.new 2).write 0 Z
theorem o1_at (Z : List Int) : (o1 Z).at_ 0 = over Z nought := rfl
theorem o1_los (Z : List Int) : (o1 Z).los = [0] := rfl

set_option maxRecDepth 100000 in
set_option maxHeartbeats 8000000 in
theorem walk (a0 : Option Addr) (len0 cap0 : Nat) (z0 : List Int) (w : World) (w0 : IsRow .u8 w a0 len0 cap0 z0) :
    Calls Try.prog 4 #[.slice a0 len0 cap0] w fun e w' => e = .returned (.bool true) ∧ Below w.heap.size w w' := by
  have HS := hide (row_sl w0)
  clear w0
  go_enter Try.func4, Try.ntmps4
  go_wp2_with fail
  refine (begun_any _).mono ?_
  rintro e x1 ⟨rfl, hB1⟩
  have HB1 := hide hB1
  clear hB1
  go_wp2_with fail
  refine (short_any _ _ 64 _ (HS.out.later HB1.out)).mono ?_
  rintro e x1 ⟨v1, rfl, h1, rfl⟩
  generalize hZ : (z0.take len0).take 64 = Z at h1
  have hZ64 : Z.length ≤ 64 := by rw [← hZ]; simp; omega
  have HS1 := hide h1
  have Hbd := hide h1.bd
  clear h1 hZ
  go_wp2_with (refine wpList_append_sl rfl (.const (.slice none 0 0)) (.tmp 17) 31 rfl x1.heap.size 5 Try.underlying31 Try.info5 _ 0 [] rfl (World.ownsRow_nil _ _ _ _) _ Z rfl HS1.out (by omega) (Nat.le_refl _) ?_; intro v2 x2 ho2 hg2)
  have hb2 : Below x1.heap.size x1 x2 := below_new hg2
  rw [Nat.zero_add, List.nil_append] at ho2
  have HO2 := hide ho2
  have Hob := hide ho2.lt
  have HB2 := hide (HB1.out.trans (hb2.mono HB1.out.size))
  obtain ⟨p, n, cp, rfl, hnc, hcp, Hn, HV⟩ := (Sl.own ho2 Hbd.out).opens
  have Hs1 : Hid (w.heap.size ≤ x1.heap.size ∧ x1.heap.size ≤ x2.heap.size) := ⟨HB1.out.size, hb2.size⟩
  have hn64 : n ≤ 64 := by rw [Hn.out]; exact hZ64
  clear ho2 hg2 hb2 HS1 HB1 HS
  go_wp2_with fail
  refine (new_lit _ _ 2 rfl (by omega) (by omega)).mono ?_
  rintro e x3 ⟨g, bl, bm, rfl, h3, hg, hbl, hbm, hB3⟩
  have H3 := hide h3
  have HB3 := hide (HB2.out.trans (hB3.mono HB2.out.size))
  have HV3 := hide (HV.out.later hB3)
  have HO3 := hide (own_but HO2.out (S := fun _ => False) (.of hB3) (fun _ _ h => h))
  have Hs3 := hide hB3.size
  clear h3 HB2 HO2 hB3
  go_wp2_with fail
  refine (write_lit H3.out rfl (by decide) (i := 0) rfl (by decide) HV3.out (by have := Hn.out; omega)).mono ?_
  rintro e x4 ⟨rfl, h4, hb4⟩
  have H4 : Hid (DevAt x4 g bl bm (o1 Z)) := h4
  have s1 := Hs1.out
  have s2 := HB3.out.size
  obtain ⟨s0, s1⟩ := s1
  have s3 := Hs3.out
  have l2 := H3.out.lts
  have HB4 : Hid (Below w.heap.size w x4) := Below.but HB3.out s2 hb4 (fun k e => by omega)
  have HO4 : Hid (x4.ownsRow x1.heap.size 5 1 (.slice p n cp) Z.length (bv Z)) := own_at HO3.out hb4 (fun k hk e => by have := Hob.out k hk; omega)
  have HV4 := hide (Sl.own HO4.out Hbd.out)
  have Hs34 := hide hb4.size
  clear h4 hb4 H3 HB3 HV3 HO3 s1 s2 s3 l2
  go_wp2_with fail
  refine wp_region_noPanic ?_
  refine wp_region_held_drew (S := fun W => Below x4.heap.size x4 W) (by kernel_rfl) ?_ (fun hHeld => ?_)
  · exact (Below.refl _ _).drew
  have hsub : (64 : Int) - (n : Int) = ((64 - n : Nat) : Int) := by omega
  have hw64 : IntKind.i64.wrap ((64 - n : Nat) : Int) = ((64 - n : Nat) : Int) := IntWalk.i64_in _ (by omega)
  refine wpAnyH_take (i := 0) (v := ?_) rfl (by kernel_rfl) (by kernel_rfl) (by kernel_rfl) (fun _ _ _ h => h) (Or.inl ⟨by kernel_rfl, ?_⟩) hHeld ?_
  rotate_left
  · intro W hW; go_simp; first | done | with_reducible rfl
  try simp only [Act.put, List.getElem_toArray, List.getElem_cons_zero, List.setIfInBounds_toArray, List.set_cons_succ, List.set_cons_zero]
  refine wpAnyH_take (i := 1) (v := .string (strOfNums (Z))) rfl (by kernel_rfl) (by kernel_rfl) (by kernel_rfl) (fun _ _ _ h => h) (Or.inl ⟨by kernel_rfl, ?_⟩) hHeld ?_
  · intro W hW; have hcv := (HV4.out.later hW).conv (P := Try.prog) 31 9 5 Try.underlying31 Try.underlying5 Try.underlying9; go_simp
  try simp only [Act.put, List.getElem_toArray, List.getElem_cons_zero, List.getElem_cons_succ, List.setIfInBounds_toArray, List.set_cons_succ, List.set_cons_zero]
  refine wpAnyH_take (i := 2) (v := ?_) rfl (by kernel_rfl) (by kernel_rfl) (by kernel_rfl) (fun _ _ _ h => h) (Or.inl ⟨by kernel_rfl, ?_⟩) hHeld ?_
  rotate_left
  · intro W hW; go_simp; first | done | with_reducible rfl
  try simp only [Act.put, List.getElem_toArray, List.getElem_cons_zero, List.getElem_cons_succ, List.setIfInBounds_toArray, List.set_cons_succ, List.set_cons_zero]
  refine wpAnyH_take (i := 3) (v := ?_) rfl (by kernel_rfl) (by kernel_rfl) (by kernel_rfl) (fun _ _ _ h => h) (Or.inl ⟨by kernel_rfl, ?_⟩) hHeld ?_
  rotate_left
  · intro W hW; go_simp; first | done | with_reducible rfl
  try simp only [Act.put, List.getElem_toArray, List.getElem_cons_zero, List.getElem_cons_succ, List.setIfInBounds_toArray, List.set_cons_succ, List.set_cons_zero]
  refine wpAnyH_take (i := 4) (v := .int .i64 ((64 - n : Nat) : Int)) rfl (by kernel_rfl) (by kernel_rfl) (by kernel_rfl) (fun _ _ _ h => h) (Or.inl ⟨by kernel_rfl, ?_⟩) hHeld ?_
  · intro W hW; go_simp; first | done | with_reducible rfl
  try simp only [Act.put, List.getElem_toArray, List.getElem_cons_zero, List.getElem_cons_succ, List.setIfInBounds_toArray, List.set_cons_succ, List.set_cons_zero]
  refine wpAnyH_ready (rs := [5]) (by kernel_rfl) (by simp) ?_
  refine AllReadyH.cons (o := _) rfl (fun K hK => ?_) AllReadyH.nil
  rw [if_pos (by kernel_rfl)]
  refine wp_make8 (.tmp 27) rfl (64 - n) (by kernel_rfl) (by omega) ?_
  intro x5 v5 hs5 hb5
  have hb45 : Below x4.heap.size x4 x5 := hHeld.trans (hb5.mono hHeld.size)
  refine hK.out _ _ hb45 (fun hHeld5 => ?_)
  clear hK K hHeld hHeld5 hb5
  try simp only [Act.put, List.getElem_toArray, List.getElem_cons_zero, List.getElem_cons_succ, List.setIfInBounds_toArray, List.set_cons_succ, List.set_cons_zero]
  refine held_mono (S' := fun W => Below x5.heap.size x5 W) (fun W h => hb45.trans (h.mono hb45.size)) _ _ _ _ ?_
  have hHeld : Below x5.heap.size x5 x5 := Below.refl _ _
  have hcat := nums_app Z (List.replicate (64 - n) 0)
  have hsz : ¬ 9223372036854775807 < (strOfNums Z).size + (strOfNums (List.replicate (64 - n) (0 : Int))).size := by rw [strOfNums_size, strOfNums_size]; simp; omega
  refine wpAnyH_take (i := 6) (v := .string (strOfNums (List.replicate (64 - n) 0))) rfl (by kernel_rfl) (by kernel_rfl) (by kernel_rfl) (fun _ _ _ h => h) (Or.inl ⟨by kernel_rfl, ?_⟩) hHeld ?_
  · intro W hW; have hcv := (hs5.later hW).conv (P := Try.prog) 31 9 5 Try.underlying31 Try.underlying5 Try.underlying9; go_simp
  try simp only [Act.put, List.getElem_toArray, List.getElem_cons_zero, List.getElem_cons_succ, List.setIfInBounds_toArray, List.set_cons_succ, List.set_cons_zero]
  refine wpAnyH_take (i := 7) (v := .string (strOfNums (Z ++ List.replicate (64 - n) 0))) rfl (by kernel_rfl) (by kernel_rfl) (by kernel_rfl) (fun _ _ _ h => h) (Or.inl ⟨by kernel_rfl, ?_⟩) hHeld ?_
  · intro W hW; go_simp; first | done | with_reducible rfl
  try simp only [Act.put, List.getElem_toArray, List.getElem_cons_zero, List.getElem_cons_succ, List.setIfInBounds_toArray, List.set_cons_succ, List.set_cons_zero]
  refine wpAnyH_take (i := 8) (v := ?_) rfl (by kernel_rfl) (by kernel_rfl) (by kernel_rfl) (fun _ _ _ h => h) (Or.inl ⟨by kernel_rfl, ?_⟩) hHeld ?_
  rotate_left
  · intro W hW; go_simp; first | done | with_reducible rfl
  try simp only [Act.put, List.getElem_toArray, List.getElem_cons_zero, List.getElem_cons_succ, List.setIfInBounds_toArray, List.set_cons_succ, List.set_cons_zero]
  refine wpAnyH_done (by kernel_rfl) ?_ _
  refine NoPanic.normal ?_
  try simp only [Act.put, List.getElem_toArray, List.getElem_cons_zero, List.getElem_cons_succ, List.setIfInBounds_toArray, List.set_cons_succ, List.set_cons_zero]
  clear hcat hsz hHeld hs5
  rw [Hn.out, over_full Z, ← Hn.out]
  have H5 := hide (H4.out.later hb45)
  have HB5 := hide (HB4.out.trans (hb45.mono HB4.out.size))
  have HO5 := hide (own_but HO4.out (S := fun _ => False) (.of hb45) (fun _ _ h => h))
  have Hs4 : Hid (x2.heap.size ≤ x3.heap.size ∧ x3.heap.size ≤ x4.heap.size ∧ x4.heap.size ≤ x5.heap.size) := ⟨Hs3.out, Hs34.out, hb45.size⟩
  clear hb45 H4 HB4 HO4 HV4 hsub HV hw64
  go_wp2_with fail
  have Hlt5 := hide H5.out.lts
  go_loopw [33] (fun i wr => ∃ k : Nat, k ≤ n ∧ i = .int .i64 k ∧ (∃ ys : List Int, Hid (wr.ownsRow x1.heap.size 5 1 (.slice p n cp) Z.length (bv ys))) ∧ Hid (But (fun j => x1.heap.size ≤ j ∧ j < x2.heap.size) x5 wr)) (fun i _ => n - (intOf i).toNat)
  case atStart => exact ⟨0, Nat.zero_le _, rfl, ⟨Z, HO5⟩, But.refl _ _⟩
  case round =>
    obtain ⟨k, hk, rfl, ⟨ys, HO⟩, hBw⟩ := hrel
    clear HO5
    by_cases hkn : k < n
    · have hO := HO.out
      rw [← Hn.out] at hO
      obtain ⟨gb, rfl, hgb, hgb2⟩ : ∃ gb, p = some ⟨gb, 0, none⟩ ∧ x1.heap.size ≤ gb ∧ gb < x2.heap.size := by
        rcases hO.2 with ⟨-, h0⟩ | ⟨gb, cap, cur, h, hb, -⟩
        · omega
        · simp at h
          obtain ⟨rfl, -⟩ := h
          exact ⟨gb, rfl, Hob.out gb rfl⟩
      have hcl := own_cell hO hkn
      have hfz := hO.frozenAt k
      have HO' := hide hO
      clear hO HO
      go_wp2_with fail
      go_roundw
      case rel =>
        refine ⟨k + 1, by omega, by simp, ?_, ?_⟩
        · rw [← Hn.out]
          exact ⟨_, own_set HO'.out k _⟩
        · exact hBw.out.setCell (.inl ⟨hgb, hgb2⟩) _
      case measure => simp [intOf]; omega
    · obtain rfl : k = n := by omega
      have s1 := Hs1.out
      have s4 := Hs4.out
      have l5 := Hlt5.out
      have HBw : Hid (Below w.heap.size w wr) := Below.but HB5.out HB5.out.size hBw.out (fun k e => by omega)
      have H6 : Hid (DevAt wr g bl bm (o1 Z)) := H5.out.but hBw.out (by omega) (by omega) (by omega)
      clear s1 s4 l5 hk hkn HO hBw HB5 H5
      go_wp2_with fail
      refine (read_lit H6.out (i := 0) rfl (show 0 < 2 by omega)).mono ?_
      rintro e x7 ⟨b7, rfl, hx7, hb7, hB7⟩
      have H7 := hide (H6.out.later hB7)
      have HX7 := hide hx7
      have HB7 := hide (HBw.out.trans (hB7.mono HBw.out.size))
      have Hl7 := hide H6.out.lts
      have HSc : Hid (Sec (over Z nought)) := sec_nought.over hZ64 Hbd.out
      clear hx7 hB7 H6
      go_wp2_with fail
      go_loopw [50] (fun i wz => ∃ j : Nat, j ≤ 64 ∧ i = .int .i64 j ∧ (∃ ys : List Int, Hid (wz.ownsRow b7 57 1 (.slice (some ⟨b7, 0, none⟩) 64 64) 64 (bv ys))) ∧ Hid (But (fun j => j = b7) x7 wz)) (fun i _ => 64 - (intOf i).toNat)
      case atStart => exact ⟨0, Nat.zero_le _, rfl, ⟨_, HX7.out.own HSc.out (Nat.le_refl _)⟩, But.refl _ _⟩
      case round =>
        obtain ⟨j, hj, rfl, ⟨ys, HO⟩, hBz⟩ := hrel
        by_cases hjn : j < 64
        · have hcl := own_cell HO.out hjn
          have hfz := HO.out.frozenAt j
          go_wp2_with fail
          go_roundw
          case rel =>
            exact ⟨j + 1, by omega, by simp, ⟨_, own_set HO.out j _⟩, hBz.out.setCell (.inl rfl) _⟩
          case measure => simp [intOf]; omega
        · obtain rfl : j = 64 := by omega
          have l7 := Hl7.out
          have sw := HBw.out.size
          have HBz : Hid (Below w.heap.size w wr) := Below.but HB7.out HB7.out.size hBz.out (fun k e => by omega)
          have H8 : Hid (DevAt wr g bl bm (o1 Z)) := H7.out.but hBz.out (by omega) (by omega) (by omega)
          clear l7 sw hj hjn HO hBz HB7 H7 HX7 HBw
          go_wp2_with fail
          have hBA : Below wr.heap.size wr (wr.alloc (.cells #[.bool true] 4)) := (Below.refl _ _).alloc (Nat.le_refl _) _
          refine (crash_any (H8.out.later hBA) (ks := [true]) (lit_rw _ _ (vs := bo [true]) (by decide))).mono ?_
          rintro e x9 ⟨g9, bl9, bm9, rfl, h9, hg9, hbl9, hbm9, hB9⟩
          have hB89 : Below wr.heap.size wr x9 := hBA.trans (hB9.mono hBA.size)
          have H9 := hide (H8.out.later hB89)
          have HE9 := hide h9
          have HB9 := hide (HBz.out.trans (hB89.mono HBz.out.size))
          have Hg9 : Hid (wr.heap.size ≤ g9 ∧ wr.heap.size ≤ bl9 ∧ wr.heap.size ≤ bm9) := by simp at hg9 hbl9 hbm9; exact ⟨by omega, by omega, by omega⟩
          have Hl8 := hide H8.out.lts
          have Hs8 := hide HBz.out.size
          clear h9 hB9 hB89 hBA H8 HBz hg9 hbl9 hbm9
          go_wp2_with fail
          have hBC : Below x9.heap.size x9 (x9.alloc (.cells #[.int .u8 1, .int .u8 2, .int .u8 3] 5)) := (Below.refl _ _).alloc (Nat.le_refl _) _
          refine (write_lit (HE9.out.later hBC) rfl (show 0 < 999999 by omega) (i := 0) rfl (show 0 < 2 by omega) (lit_sl _ _ _ (zs := [1, 2, 3]) (by decide) (by decide)) (by decide)).mono ?_
          rintro e x10 ⟨rfl, h10, hb10⟩
          have g9 := Hg9.out
          have l8 := Hl8.out
          have s8 := Hs8.out
          have H10 : Hid (DevAt x10 g bl bm (o1 Z)) := (H9.out.later hBC).but hb10 (by omega) (by omega) (by omega)
          have HB10 : Hid (Below w.heap.size w x10) := Below.but (HB9.out.trans (hBC.mono HB9.out.size)) (by have := HB9.out.size; simp; omega) hb10 (fun k e => by omega)
          clear h10 hb10 hBC g9 l8 s8 H9 HE9 HB9
          go_wp2_with fail
          refine (read_lit H10.out (i := 0) rfl (show 0 < 2 by omega)).mono ?_
          rintro e x11 ⟨b11, rfl, hx11, hb11, hB11⟩
          rw [o1_at] at hx11
          have H11 := hide (H10.out.later hB11)
          have HB11 := hide (HB10.out.trans (hB11.mono HB10.out.size))
          have hcv := (Sl.own (hx11.own HSc.out (Nat.le_refl _)) HSc.out.2).conv (P := Try.prog) 31 9 5 Try.underlying31 Try.underlying5 Try.underlying9
          clear hx11 hb11 hB11 H10 HB10
          go_wp2_with fail
          refine (loose_any H11.out).mono ?_
          rw [o1_los]
          rintro e x12 ⟨lv, rfl, ho12, hB12⟩
          obtain ⟨pl, nl, cl, rfl, hnl, hcl, Hnl, -⟩ := (Rw.own ho12).opens
          obtain rfl : nl = 1 := Hnl.out
          clear ho12 hcv
          go_wp2_with fail
          go_ret
          exact ⟨rfl, HB11.out.trans (hB12.mono HB11.out.size)⟩

set_option maxRecDepth 100000 in
theorem lifted (os : Os) (started : os.Started) (H : Type) (enc : TypeId × Value → H) :
    ReturnsInHanded {} Try.checked os 4 .any (Rows.devOwnSpec.pre6 enc Try.prog Try.f4 Rows.devOwnRow.domain false) (Rows.devOwnSpec.post enc Try.prog Try.f4 false true false false) := by
  refine returnsInHanded_of_change (C := Try.checked) own started (by kernel_rfl) Try.func4
    (ChangeSpec.witness6 (enc := enc) (C := Try.checked) false ⟨#[], #[.slice none 0 0], []⟩ 8 (by kernel_rfl) (by kernel_rfl) (by kernel_rfl) (by kernel_rfl)) ?_
  intro W base args ds gs before hval0 hW hcnd _
  have hval : ∀ (j : Nat) t v, Try.f4.params[j]? = some t → args[j]? = some v → Value.okWide Try.prog W .any base t v := hval0
  have hW' := hW
  obtain ⟨p, q, hA0, hV, rfl, hfz, hnd⟩ := hW
  have hA : DataW.TrodAll enc Try.prog W 0 (fun _ => true) true Try.f4.params.toList args.toList ds p := hA0
  rw [Try.params4] at hA hval
  obtain ⟨v0, vs0, d0, ds0, p0, q0, hargs, rfl, rfl, h0, r0⟩ := trodAll_cons hA
  obtain ⟨rfl, rfl, rfl⟩ := trodAll_nil r0
  obtain rfl : args = #[v0] := by cases args; simp_all
  obtain ⟨rfl, rfl⟩ := trodVars_none hV
  obtain ⟨a0, len0, cap0, rfl⟩ := okWide_slice Try.underlying31 (hval 0 31 v0 rfl rfl)
  have k0 := h0
  have lt0 : ∀ x ∈ p0, x.block < W.heap.size := by obtain ⟨m, hm⟩ := k0; exact DataW.trod_lt m _ _ _ hm
  obtain ⟨z0, w0⟩ : ∃ zs, IsRow .u8 W a0 len0 cap0 zs := by
    obtain ⟨fuel, hf⟩ := h0
    rcases open_ints Try.underlying31 Try.underlying5 (by kernel_rfl) hf with ⟨hcs, _⟩ | ⟨x, l, c, zs, hcs, _, hl, hm, hz, _, hcell, hwz⟩
    · simp [Value.cells] at hcs
      obtain ⟨rfl, rfl, rfl⟩ := hcs
      exact ⟨[], .inl ⟨rfl, rfl, rfl, rfl⟩⟩
    · simp [Value.cells] at hcs
      obtain ⟨rfl, rfl, rfl⟩ := hcs
      exact ⟨zs, .inr ⟨_, rfl, hl, hm, by simpa using hz, hcell, hwz⟩⟩
  clear hA0 hval0
  refine (walk a0 len0 cap0 z0 W w0).mono fun e W' ⟨he, bel⟩ => ?_
  subst he
  exact ⟨_, rfl, _, _, _, [], _, [], hW', trodAll_mk1 (shut_bool Try.underlying4 _), (trodAll_cons_mk (Below.trod laidOut (by kernel_rfl) (of_decide_eq_true (by kernel_rfl)) k0 bel lt0) trodAll_mk0), rfl, bel.frame _, fun h => by cases h⟩

theorem over : Rows.devOwnRow.holds Try.pinned (OpenSpec.ofChange Rows.devOwnSpec) :=
  OpenClaim.holds_of_wide 4 Try.f4 rfl rfl rfl rfl rfl rfl rfl ⟨rfl, rfl, rfl, rfl, rfl⟩ rfl rfl rfl rfl rfl (by kernel_rfl) Try.func4 (by kernel_rfl)
    (of_decide_eq_true (by kernel_rfl)) (by unfold Func.isWrapper; first | (rw [if_pos (by decide +kernel)]; kernel_rfl) | (rw [if_neg (by decide +kernel)]; exact ⟨rfl, rfl⟩))
    (fun os started H enc _ => lifted os started H enc)

theorem proved : Rows.DevOwnSaid := over
#print axioms proved
end Go.Proofs.Ytjgdbialapdggaa.devOwn
