/-
  Slices of floats in memory; the contract of float.Sum, over the translated program.
-/
import Derived.Test.YtnkmfaddgodefaaFltW
import Derived.Test.YtnkmfaddgodefaaFltS
namespace Go.Proofs.Ytnkmfaddgodefaa
open Go.RowKit

theorem Try.infoF : (Try.prog.info? 24).map (fun i => (i.zero, i.size, i.bytes)) = some (some (.float .f64 0), 1, 8) := by kernel_rfl

/-- The float cells. -/
def fv (l : List Nat) : List Value := l.map (Value.float .f64)
theorem fv_len (l : List Nat) : (fv l).length = l.length := by simp [fv]
theorem fv_app (a b : List Nat) : fv (a ++ b) = fv a ++ fv b := by simp [fv]
theorem fv_one (l : List Nat) : ∀ u ∈ fv l, u.oneCell' = true := by
  intro u hu
  simp [fv] at hu
  obtain ⟨z, _, rfl⟩ := hu
  rfl

/-- A slice of floats that is there. -/
def Fs (w : World) (v : Value) (l : List Nat) : Prop :=
  ∃ a cap, v = .slice a l.length cap ∧ l.length ≤ cap ∧ cap ≤ maxLen ∧
    ∀ i, i < l.length → ∃ b off, a = some ⟨b, off, none⟩ ∧ w.cell? ⟨b, off + i, none⟩ = some (.float .f64 (l.getD i 0))
theorem Fs.nil (w : World) : Fs w (.slice none 0 0) [] := ⟨none, 0, rfl, Nat.le_refl _, Nat.zero_le _, fun i hi => by simp at hi⟩
theorem Fs.later {w w' : World} {v : Value} {l : List Nat} (h : Fs w v l) (hb : Below w.heap.size w w') : Fs w' v l := by
  obtain ⟨a, cap, e, h1, h2, h4⟩ := h
  refine ⟨a, cap, e, h1, h2, fun i hi => ?_⟩
  obtain ⟨b, off, ea, hc⟩ := h4 i hi
  exact ⟨b, off, ea, by rw [hb.cell (p := ⟨b, off + i, none⟩) (cell_lt hc), hc]⟩
theorem Fs.own {w : World} {base : Nat} {e : TypeId} {v : Value} {n : Nat} {l : List Nat} (h : w.ownsRow base e 1 v n (fv l)) : Fs w v l := by
  obtain ⟨hl, h⟩ := h
  rw [fv_len, Nat.mul_one] at hl
  subst hl
  rcases h with ⟨rfl, h0⟩ | ⟨g, cap, cur, rfl, _, hh, h1, h2, h3, h4⟩
  · exact ⟨none, 0, by rw [h0], by omega, by unfold maxLen; omega, fun i hi => by omega⟩
  · refine ⟨_, cap, rfl, h1, h2, fun i hi => ⟨g, 0, rfl, ?_⟩⟩
    have hs : i < cur.size := by omega
    have h5 : (cur.toList.take (l.length * 1))[i]? = (fv l)[i]? := by rw [h4]
    rw [List.getElem?_take_of_lt (by omega)] at h5
    simp [fv, List.getElem?_eq_getElem hi] at h5
    have h6 : cur[i]? = some (.float .f64 l[i]) := by simpa using h5
    simp [World.cell?, hh, h6, List.getD, List.getElem?_eq_getElem hi]
theorem Fs.opens {w : World} {v : Value} {l : List Nat} (h : Fs w v l) : ∃ p n cp, v = .slice p n cp ∧ n ≤ cp ∧ cp ≤ 9223372036854775807 ∧ Hid (n = l.length) ∧ Hid (Fs w (.slice p n cp) l) := by
  have h' := h
  obtain ⟨a, cap, rfl, h1, h2, -⟩ := h
  unfold maxLen at h2
  exact ⟨a, _, cap, rfl, h1, by omega, rfl, h'⟩
theorem Fs.cell {w : World} {a : Option Addr} {n cap : Nat} {l : List Nat} (h : Fs w (.slice a n cap) l) {i : Nat} (hi : i < n) :
    ∃ b off, a = some ⟨b, off, none⟩ ∧ w.cell? ⟨b, off + i, none⟩ = some (.float .f64 (l.getD i 0)) := by
  obtain ⟨a1, cap1, e, h1, h2, h4⟩ := h
  simp at e
  obtain ⟨rfl, rfl, rfl⟩ := e
  exact h4 i hi

/-- A sum that is no number: a NaN of whatever bits. -/
theorem run_add_some (x y r : Nat) (h : Fl.F.add x y = some r) (t : TypeId) (w : World) : (binOp .add t (.float .f64 x) (.float .f64 y)).run Try.prog w = .ok (.float .f64 r) w :=
  run_float_arith w .add t .f64 x y r h
theorem run_add_none (x y : Nat) (h : Fl.F.add x y = none) (t : TypeId) (w : World) : ∃ r, (binOp .add t (.float .f64 x) (.float .f64 y)).run Try.prog w = .ok (.float .f64 r) w.drew ∧ Fl.nan r = true ∧ r < 18446744073709551616 := by
  refine ⟨(Question.nanBits .f64 x y).cut (w.tape w.drawn (.nanBits .f64 x y)), ?_, ?_, ?_⟩
  · have h' : FloatKind.f64.format.add x y = none := h
    simp [binOp, Op.floatArith, h', Question.forced]
  · simp only [Question.cut]
    generalize w.tape w.drawn (.nanBits .f64 x y) = t
    unfold Fl.nan Fl.rg
    have h1 : t / 2 % (2 ^ 52 - 1) < 4503599627370495 := Nat.mod_lt _ (by decide)
    have h2 : t % 2 = 0 ∨ t % 2 = 1 := by omega
    generalize t / 2 % (2 ^ 52 - 1) = q at *
    rcases h2 with h2 | h2 <;> rw [h2] <;> simp <;> omega
  · simp only [Question.cut]
    generalize w.tape w.drawn (.nanBits .f64 x y) = t
    omega

/-- Both ways in one. -/
theorem run_add (x y : Nat) (t : TypeId) (w : World) : ∃ r n, (binOp .add t (.float .f64 x) (.float .f64 y)).run Try.prog w = .ok (.float .f64 r) (w.drewN n) ∧ Fl.cl r = Fl.ad x y ∧ r < 18446744073709551616 := by
  cases h : Fl.F.add x y with
  | some r => exact ⟨r, 0, run_add_some x y r h t w, by unfold Fl.ad; rw [h]; exact Fl.cl_not (Fl.add_some h).1, (Fl.add_some h).2⟩
  | none =>
    obtain ⟨r, h1, h2, h3⟩ := run_add_none x y h t w
    exact ⟨r, 1, h1, by unfold Fl.ad; rw [h]; exact Fl.cl_nan h2, h3⟩

theorem drewN_add (w : World) (m n : Nat) : (w.drewN m).drewN n = w.drewN (m + n) := by simp [World.drewN, Nat.add_assoc]

set_option maxHeartbeats 1000000 in
theorem sum_any (v : Value) (l : List Nat) (w : World) (h : Fs w v l) :
    Calls Try.prog 23 #[v] w fun e w' => e = .returned (.float .f64 (Fl.sm l)) ∧ ∃ n, w' = w.drewN n := by
  have HS := hide h
  obtain ⟨p, n, cp, rfl, hn, hc, Hn, -⟩ := h.opens
  clear h
  go_enter Try.func23, Try.ntmps23
  go_wp2_with fail
  go_loopw [3, 8] (fun u i wr => ∃ (k s m : Nat), k ≤ n ∧ i = .int .i64 k ∧ u = .float .f64 s ∧ Hid (Fl.cl s = Fl.sm (l.take k)) ∧ wr = w.drewN m) (fun _ i _ => n - (intOf i).toNat)
  case atStart => exact ⟨0, 0, 0, by omega, rfl, rfl, by show _ = _; simp [Fl.sm]; decide, rfl⟩
  case round =>
    obtain ⟨k, s, m, hk, rfl, rfl, HC, rfl⟩ := hrel
    by_cases hlt : k < n
    · obtain ⟨b, off, rfl, hcell⟩ := HS.out.cell (i := k) hlt
      have hcell' : (w.drewN m).cell? ⟨b, off + k, none⟩ = some (.float .f64 (l.getD k 0)) := hcell
      have HN : Hid (Fl.ad s (l.getD k 0) = Fl.sm (l.take (k + 1))) := by
        show _ = _
        have hkl : k < l.length := by rw [← Hn.out]; exact hlt
        have e : l.getD k 0 = l[k] := by simp [List.getD, List.getElem?_eq_getElem hkl]
        rw [List.take_succ_eq_append_getElem hkl, Fl.sm_app, ← HC.out, Fl.ad_cl, e]
      generalize l.getD k 0 = y at *
      obtain ⟨r, d, ha, hcl, hr⟩ := run_add s y 24 (w.drewN m)
      rw [drewN_add] at ha
      have HCL := hide hcl
      clear hcl hcell
      go_wp2_with fail
      go_roundw
      case rel => exact ⟨k + 1, r, m + d, by omega, by go_num, rfl, by show _ = _; rw [HCL.out, HN.out], rfl⟩
      case measure => simp [intOf]; omega
    · have HF : Hid (Fl.cl s = Fl.sm l) := by
        show _ = _
        rw [HC.out, List.take_of_length_le (by rw [← Hn.out]; omega)]
      clear HC
      go_wp2_with fail
      refine (clean_any s _).mono ?_
      rintro e w3 ⟨rfl, rfl⟩
      rw [HF.out]
      go_wp2_with fail
      go_ret
      exact ⟨rfl, m, rfl⟩
end Go.Proofs.Ytnkmfaddgodefaa
