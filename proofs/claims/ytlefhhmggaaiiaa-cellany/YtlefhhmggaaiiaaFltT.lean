/-
  The texts of bytes of floats, held against one another; no program is named here.
-/
import Derived.Test.YtlefhhmggaaiiaaFltC
namespace Go.Proofs.Ytlefhhmggaaiiaa

theorem tl_less {r s : Nat} (hr : r < 18446744073709551616) (hs : s < 18446744073709551616) (b : Bool) (h : decide (r < s) = b) :
    Op.bytesLess (strOfNums (Fl.be r)).toList (strOfNums (Fl.be s)).toList = b := by rw [Fl.str_less hr hs, h]
theorem tl_eq {r s : Nat} (hr : r < 18446744073709551616) (hs : s < 18446744073709551616) (b : Bool) (h : decide (r = s) = b) :
    ((strOfNums (Fl.be r)).toList == (strOfNums (Fl.be s)).toList) = b := by
  rw [← h, Bool.eq_iff_iff]
  simp only [beq_iff_eq, decide_eq_true_eq]
  constructor
  · intro q
    refine Fl.be_inj hr hs (Fl.str_inj (Fl.be_bd _) (Fl.be_bd _) ?_)
    apply ByteArray.ext
    apply Array.toList_inj.1
    rw [← ByteArray.toList_eq, ← ByteArray.toList_eq, q]
  · intro q
    rw [q]
end Go.Proofs.Ytlefhhmggaaiiaa
