/-
  The law's operations: a slice of structs with slices in them, as it came in.
-/
import Derived.Test.YtjgdbialapdggaaOpn
import Derived.Test.YtjgdbialapdggaaRefP
import Derived.Test.YtjgdbialapdggaaRows
namespace Go.Proofs.Ytjgdbialapdggaa
open Go.RowKit Go.ChangeShapes Go.WideShapes Go.ChangeAt

/-- Kind, I, B, Keep of each. -/
def Ops (w : World) (v : Value) (zs : List (Int × Int × List Int × List Bool)) : Prop :=
  ∃ a cap, v = .slice a zs.length cap ∧ zs.length ≤ cap ∧ cap ≤ maxLen ∧ ∀ i (hi : i < zs.length), ∃ b off vB vK, a = some ⟨b, off, none⟩ ∧
    w.cell? ⟨b, off + i * 4, none⟩ = some (.int .i64 zs[i].1) ∧ w.cell? ⟨b, off + i * 4 + 1, none⟩ = some (.int .i64 zs[i].2.1) ∧ w.cell? ⟨b, off + i * 4 + 2, none⟩ = some vB ∧ w.cell? ⟨b, off + i * 4 + 3, none⟩ = some vK ∧
    (Lit.int .i64 zs[i].2.1).wf = true ∧ Sl w vB zs[i].2.2.1 ∧ Rw w vK (bo zs[i].2.2.2)

theorem open_Op {H : Type} {enc : TypeId × Value → H} {w : World} {base : Nat} {spare : Nat → Bool} {held : Bool} {fuel : Nat} {cs : List Value} {x : DataW H × List MemPlace} (h : DataW.trod enc Try.prog w base spare held fuel 22 cs = some x) :
    ∃ a len cap zs, cs = [.slice a len cap] ∧ Ops w (.slice a len cap) zs := by
  obtain ⟨a, len, cap, F, rfl, hl, hm, hF⟩ := open_rows Try.underlying22 4 (by kernel_rfl) (by omega) h
  have each : ∀ i, ∃ q : Int × Int × List Int × List Bool, i < len → ∃ vB vK, F i = [.int .i64 q.1, .int .i64 q.2.1, vB, vK] ∧ (Lit.int .i64 q.2.1).wf = true ∧ Sl w vB q.2.2.1 ∧ Rw w vK (bo q.2.2.2) := fun i => by
    by_cases hi : i < len
    · obtain ⟨_, hlen, n, y, hy⟩ := hF i hi
      obtain ⟨xs, k, hk, hxy, _, hxl, hf⟩ := DataW.trod_struct Try.underlying33 hy
      generalize F i = cs' at *
      match xs, hxl, cs', hlen with
      | [y0, y1, y2, y3], _, [v0, v1, v2, v3], _ =>
        have g0 := hf 0 _ rfl
        have g1 := hf 1 _ rfl
        have g2 := hf 2 _ rfl
        have g3 := hf 3 _ rfl
        have c3 : Try.prog.cellsOf 3 = 1 := by kernel_rfl
        have c5 : Try.prog.cellsOf 31 = 1 := by kernel_rfl
        have c28 : Try.prog.cellsOf 28 = 1 := by kernel_rfl
        simp [c3, c5, c28] at g0 g1 g2 g3
        obtain ⟨z0, hz0, -, -⟩ := DataW.trod_int Try.underlying3 g0
        obtain ⟨z1, hz1, -, hw⟩ := DataW.trod_int Try.underlying3 g1
        obtain ⟨a2, l2, p2, bs, e2, h2⟩ := open_bytes Try.underlying31 Try.underlying5 (by kernel_rfl) g2
        obtain ⟨a3, l3, p3, ks, e3, h3⟩ := open_bools Try.underlying28 Try.underlying4 (by kernel_rfl) g3
        simp at hz0 hz1 e2 e3
        subst hz0 hz1 e2 e3
        exact ⟨(z0, z1, bs, ks), fun _ => ⟨_, _, rfl, hw, h2, h3⟩⟩
    · exact ⟨(0, 0, [], []), fun h => absurd h hi⟩
  have ⟨K, hK⟩ := Classical.axiomOfChoice each
  refine ⟨a, len, cap, (List.range len).map K, rfl, a, cap, by simp, by simpa using hl, hm, fun i hi => ?_⟩
  have hi' : i < len := by simpa using hi
  obtain ⟨⟨b, off, ea, hc⟩, _⟩ := hF i hi'
  obtain ⟨vB, vK, e, h1, h2, h3⟩ := hK i hi'
  have d0 := hc 0 (by omega)
  have d1 := hc 1 (by omega)
  have d2 := hc 2 (by omega)
  have d3 := hc 3 (by omega)
  rw [e] at d0 d1 d2 d3
  simp only [List.getElem_map, List.getElem_range]
  exact ⟨b, off, vB, vK, ea, by simpa using d0, by simpa [Nat.add_assoc] using d1, by simpa [Nat.add_assoc] using d2, by simpa [Nat.add_assoc] using d3, h1, h2, h3⟩

/-- What the walk asks of one of them. -/
theorem Ops.at_ {w W : World} {a : Option Addr} {n cap : Nat} {zs : List (Int × Int × List Int × List Bool)} (h : Ops w (.slice a n cap) zs) (hb : Below w.heap.size w W) {i : Nat} (hi : i < n) :
    ∃ b off pB nB cB pK nK cK kind z bs ks, a = some ⟨b, off, none⟩ ∧ W.cell? ⟨b, off + i * 4, none⟩ = some (.int .i64 kind) ∧ W.cell? ⟨b, off + i * 4 + 1, none⟩ = some (.int .i64 z) ∧ W.cell? ⟨b, off + i * 4 + 2, none⟩ = some (.slice pB nB cB) ∧ W.cell? ⟨b, off + i * 4 + 3, none⟩ = some (.slice pK nK cK) ∧
      -9223372036854775808 ≤ z ∧ z ≤ 9223372036854775807 ∧ Hid (Sl w (.slice pB nB cB) bs) ∧ Hid (Rw w (.slice pK nK cK) (bo ks)) := by
  obtain ⟨a', cap', e, h1, h2, h3⟩ := h
  simp at e
  obtain ⟨rfl, rfl, rfl⟩ := e
  obtain ⟨b, off, vB, vK, ea, c0, c1, c2, c3, hw, hB, hK⟩ := h3 i hi
  obtain ⟨pB, nB, cB, rfl, -⟩ := hB.opens
  obtain ⟨pK, nK, cK, rfl, -⟩ := hK.opens
  have hz := bounds_i64 hw
  have up : ∀ {p : Addr} {v : Value}, w.cell? p = some v → W.cell? p = some v := fun hc => by rw [World.cell?_of_block (hb.block _ (cell_lt hc)), hc]
  exact ⟨b, off, pB, nB, cB, pK, nK, cK, _, _, _, _, ea, up c0, up c1, up c2, up c3, hz.1, hz.2, hB, hK⟩

theorem Ops.len {w : World} {a : Option Addr} {n cap : Nat} {zs : List (Int × Int × List Int × List Bool)} (h : Ops w (.slice a n cap) zs) : n ≤ cap ∧ cap ≤ 9223372036854775807 := by
  obtain ⟨a', cap', e, h1, h2, -⟩ := h
  simp at e
  obtain ⟨rfl, rfl, rfl⟩ := e
  exact ⟨h1, h2⟩

set_option maxHeartbeats 400000 in
theorem short_low (v : Value) (zs : List Int) (n : Nat) (w0 w : World) (h : Sl w0 v zs) :
    Calls Try.prog 11 #[v, .int .i64 n] w fun e w' => ∃ v', e = .returned v' ∧ Sl w0 v' (zs.take n) ∧ w' = w := by
  have HS := hide h
  obtain ⟨a, cap, rfl, hl, hm, hbd, hc⟩ := h
  unfold maxLen at hm
  clear hc hbd
  by_cases hn : n < zs.length
  · have hp := HS.out.part (l := 0) (m := n) (by omega) (by omega) _ rfl
    have HP : Hid (Sl w0 (.slice a n cap) (zs.take n)) := by
      show Sl _ _ _
      have e : (if cap = 0 then a else Option.map (fun x : Addr => x.add (0 * 1)) a) = a := by cases a <;> simp [Addr.add]
      rw [e] at hp
      simpa using hp
    clear hp
    go_enter Try.func11, Try.ntmps11
    go_wp2_with fail
    go_ret
    exact ⟨_, rfl, HP.out, rfl⟩
  · have e : zs.take n = zs := List.take_of_length_le (by omega)
    have HE := hide e
    clear e
    go_enter Try.func11, Try.ntmps11
    go_wp2_with fail
    go_ret
    exact ⟨_, rfl, by rw [HE.out]; exact HS.out, rfl⟩

end Go.Proofs.Ytjgdbialapdggaa
