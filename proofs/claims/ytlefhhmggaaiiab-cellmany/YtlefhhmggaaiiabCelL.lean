/-
  Cells that were committed, undone, written stay within their bounds; no program is named here.
-/
import Derived.Test.YtlefhhmggaaiiabCelA
namespace Go.Proofs.Ytlefhhmggaaiiab
open Go.RowKit

theorem Ce.settle_ok {n : ByteArray} {v : Va} (hn : n.size ≤ maxLen) (hv : v.Ok) : (Ce.settle n v).Ok := by
  unfold Ce.settle
  split
  · exact Ce.ok_zero
  · exact ⟨hn, hv, by show (-9223372036854775808 : Int) ≤ 0; omega, by show (0 : Int) ≤ 9223372036854775807; omega, Va.ok_zero⟩
theorem Ce.commit_ok {c : Ce} (h : c.Ok) : c.commit.Ok := by
  unfold Ce.commit
  split
  · exact Ce.settle_ok h.n h.w
  · exact h
theorem Ce.undo_ok {c : Ce} (h : c.Ok) : c.undo.Ok := Ce.settle_ok h.n h.v
theorem Ce.settle_fit (n : ByteArray) (v : Va) : (Ce.settle n v).N.size + (Ce.settle n v).V.S.size + (Ce.settle n v).W.S.size ≤ n.size + v.S.size := by
  unfold Ce.settle
  split
  · show 0 + 0 + 0 ≤ _
    omega
  · show n.size + v.S.size + 0 ≤ _
    omega
theorem Ce.commit_fit (c : Ce) : c.commit.N.size + c.commit.V.S.size + c.commit.W.S.size ≤ c.N.size + c.V.S.size + c.W.S.size := by
  unfold Ce.commit
  split
  · have := Ce.settle_fit c.N c.W
    omega
  · exact Nat.le_refl _
theorem Ce.undo_fit (c : Ce) : c.undo.N.size + c.undo.V.S.size + c.undo.W.S.size ≤ c.N.size + c.V.S.size + c.W.S.size := by
  have := Ce.settle_fit c.N c.V
  unfold Ce.undo
  omega
theorem Ce.wr_ok {c : Ce} (h : c.Ok) {t : Int} (h0 : -9223372036854775808 ≤ t) (h1 : t ≤ 9223372036854775807) {v : Va} (hv : v.Ok) : (Ce.wr c t v).Ok := ⟨h.n, h.v, h0, h1, hv⟩
theorem Ce.see_ok {c : Ce} (h : c.Ok) (t : Int) : (Ce.see c t).Ok := by
  unfold Ce.see
  split
  · exact h.w
  · exact h.v
theorem Ce.wr_may {c : Ce} (h : c.may = true) {t : Int} (h0 : 1 ≤ t) (h1 : t ≤ 1099511627776) {v : Va} (hv : v.may = true) : (Ce.wr c t v).may = true := by
  obtain ⟨h1', h2, h3, h4⟩ := Ce.may_parts h
  have ht : ¬ t = 0 := by omega
  have ht' : 0 < t := by omega
  simp [Ce.may, Ce.wr, Ce.tm, h1', h2, hv, ht, ht', h1]
end Go.Proofs.Ytlefhhmggaaiiab
