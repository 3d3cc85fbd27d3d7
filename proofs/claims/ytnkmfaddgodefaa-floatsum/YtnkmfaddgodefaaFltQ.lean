/-
  The contract of engrossref1.Add over the translated program.
-/
import Derived.Test.YtnkmfaddgodefaaFltC
namespace Go.Proofs.Ytnkmfaddgodefaa
open Go.RowKit

set_option maxHeartbeats 1000000 in
theorem refAdd_any (v : Value) (l : List Nat) (w : World) (h : Fs w v l) :
    Calls Try.prog 24 #[v] w fun e w' => e = .returned (.float .f64 (Fl.sm l)) ∧ ∃ n, w' = w.drewN n := by
  have HS := hide h
  obtain ⟨p, n, cp, rfl, hn, hc, Hn, -⟩ := h.opens
  clear h
  go_enter Try.func24, Try.ntmps24
  go_wp2_with fail
  go_loopw [3, 4] (fun u i wr => ∃ (k s m : Nat), k ≤ n ∧ i = .int .i64 k ∧ u = .float .f64 s ∧ s < 18446744073709551616 ∧ Hid (Fl.cl s = Fl.sm (l.take k)) ∧ wr = w.drewN m) (fun _ i _ => n - (intOf i).toNat)
  case atStart => exact ⟨0, 0, 0, by omega, rfl, rfl, by decide, by show _ = _; simp [Fl.sm]; decide, rfl⟩
  case round =>
    obtain ⟨k, s, m, hk, rfl, rfl, hs, HC, rfl⟩ := hrel
    by_cases hlt : k < n
    · obtain ⟨b, off, rfl, hcell⟩ := HS.out.cell (i := k) hlt
      have hcell' : (w.drewN m).cell? ⟨b, off + k, none⟩ = some (.float .f64 (l.getD k 0)) := hcell
      have HN : Hid (Fl.ad s (l.getD k 0) = Fl.sm (l.take (k + 1))) := by
        show _ = _
        have hkl : k < l.length := by rw [← Hn.out]; exact hlt
        have e : l.getD k 0 = l[k] := by simp [List.getD, List.getElem?_eq_getElem hkl]
        rw [List.take_succ_eq_append_getElem hkl, Fl.sm_app, ← HC.out, Fl.ad_cl, e]
      generalize l.getD k 0 = y at *
      obtain ⟨r, d, ha, hcl, hr⟩ := run_add s y 24 (w.drewN m)
      rw [drewN_add] at ha
      have HCL := hide hcl
      clear hcl hcell
      go_wp2_with fail
      go_roundw
      case rel => exact ⟨k + 1, r, m + d, by omega, by go_num, rfl, hr, by show _ = _; rw [HCL.out, HN.out], rfl⟩
      case measure => simp [intOf]; omega
    · have HF : Hid (Fl.cl s = Fl.sm l) := by
        show _ = _
        rw [HC.out, List.take_of_length_le (by rw [← Hn.out]; omega)]
      clear HC
      go_wp2_with fail
      refine (refClean_any s _ hs).mono ?_
      rintro e w3 ⟨rfl, rfl⟩
      rw [HF.out]
      go_wp2_with fail
      go_ret
      exact ⟨rfl, m, rfl⟩
end Go.Proofs.Ytnkmfaddgodefaa
