/-
  For every int n and every slice of operations DevAll returns true: a device of 1 to 8 sectors, written, flushed, crashed, fused (the first 50 operations, 70 bytes of each), tells at each time just what the document's device tells. No condition.
-/
import Derived.Test.YtjgdbialapdggaaRows
import Derived.WalkKit
import Derived.ProofKit
import Derived.OpenShut
import Derived.ShutString
import Derived.ChangeOld
import Derived.Below
import Derived.Test.YtjgdbialapdggaaBas
import Derived.Test.YtjgdbialapdggaaInf
import Derived.Test.YtjgdbialapdggaaDevA
import Derived.Test.YtjgdbialapdggaaGrdF
import Derived.Test.YtjgdbialapdggaaRw
import Derived.Test.YtjgdbialapdggaaDevM
import Derived.Test.YtjgdbialapdggaaDevW
import Derived.Test.YtjgdbialapdggaaDevO
import Derived.Test.YtjgdbialapdggaaDevR
import Derived.Test.YtjgdbialapdggaaDevT
import Derived.Test.YtjgdbialapdggaaDevN
import Derived.Test.YtjgdbialapdggaaDevF
import Derived.Test.YtjgdbialapdggaaDevK
import Derived.Test.YtjgdbialapdggaaDevL
import Derived.Test.YtjgdbialapdggaaDevC
import Derived.Test.YtjgdbialapdggaaDevB
import Derived.Test.YtjgdbialapdggaaSho
import Derived.Test.YtjgdbialapdggaaOpn
import Derived.Test.YtjgdbialapdggaaOrd
import Derived.Test.YtjgdbialapdggaaRefM
import Derived.Test.YtjgdbialapdggaaRefW
import Derived.Test.YtjgdbialapdggaaRefF
import Derived.Test.YtjgdbialapdggaaRefC
import Derived.Test.YtjgdbialapdggaaRefS
import Derived.Test.YtjgdbialapdggaaRefB
import Derived.Test.YtjgdbialapdggaaRefP
import Derived.Test.YtjgdbialapdggaaOpM
namespace Go.Proofs.Ytjgdbialapdggaa.devAll
open Go.ChangeShapes Go.WideShapes Go.ChangeAt Go.RowKit
open Go.ChangeMaps (open_string shut_string)
set_option linter.unusedVariables false

theorem own : ownKnob Try.prog.godebug = none := by kernel_rfl
theorem laidOut : laidOutB Try.prog = true := by kernel_rfl

/-- The slots of the region's three chains. -/
def P8 (a0 : Act) (x35 x36 x37 x42 x43 x44 x49 x50 : Value) : Act := (((((((a0.put (some 35) x35).put (some 36) x36).put (some 37) x37).put (some 42) x42).put (some 43) x43).put (some 44) x44).put (some 49) x49).put (some 50) x50

/-- Which operations have come up: all that only read, and so many of each chain. -/
def L8 (i j k : Nat) : Array Bool := (Array.range 32).map fun x =>
  if x = 7 then decide (0 < i) else if x = 8 then decide (1 < i) else if x = 9 then decide (2 < i) else if x = 14 then decide (0 < j) else if x = 15 then decide (1 < j) else if x = 16 then decide (2 < j) else if x = 21 then decide (0 < k) else if x = 22 then decide (1 < k) else decide (x < 23)

def cA (i : Nat) : Nat := 7 + i
def cB (i : Nat) : Nat := 14 + i
def cC (i : Nat) : Nat := 21 + i

/-- What holds when each chain is so far. -/
def Iv (W0 : World) (B k : Nat) (vn vs vo : Value) (ln ls : List Value) (a0 : Act) (i j m : Nat) (a : Act) (w : World) : Prop :=
  ∃ x35 x36 x37 x42 x43 x44 x49 x50, a = P8 a0 x35 x36 x37 x42 x43 x44 x49 x50 ∧ GrS W0.heap.size B vn k ln i x35 x36 x37 w ∧ GrS W0.heap.size B vs k ls j x42 x43 x44 w ∧ Gr W0.heap.size B 4 vo k (List.replicate k (.bool false)) (.bool false) m x49 x50 w ∧ But (Rows3 vn vs vo) W0 w ∧ (i = 3 → j = 3 → ∀ b, x37.ownBlock = some b → x44.ownBlock ≠ some b)

theorem put_self (a : Act) (d : Nat) : a.put (some d) (a.eval (.tmp d)) = a := by
  obtain ⟨ts, ds⟩ := a
  simp only [Act.put, Act.eval]
  congr 1
  apply Array.ext
  · simp
  · intro i h1 h2
    rw [Array.getElem_setIfInBounds]
    split
    · next e => subst e; simp [h2]
    · rfl

theorem P8_self (a : Act) : a = P8 a (a.eval (.tmp 35)) (a.eval (.tmp 36)) (a.eval (.tmp 37)) (a.eval (.tmp 42)) (a.eval (.tmp 43)) (a.eval (.tmp 44)) (a.eval (.tmp 49)) (a.eval (.tmp 50)) := by
  simp only [P8, put_self]

theorem Iv.start {W0 : World} {B k : Nat} {vn vs vo : Value} {ln ls : List Value} {a0 : Act} {w : World} (hA : ∀ u x y, GrS W0.heap.size B vn k ln 0 u x y w) (hB : ∀ u x y, GrS W0.heap.size B vs k ls 0 u x y w) (hC : ∀ x y, Gr W0.heap.size B 4 vo k (List.replicate k (.bool false)) (.bool false) 0 x y w) (hS : But (Rows3 vn vs vo) W0 w) : Iv W0 B k vn vs vo ln ls a0 0 0 0 a0 w :=
  ⟨_, _, _, _, _, _, _, _, P8_self a0, hA _ _ _, hB _ _ _, hC _ _, hS, fun h => by omega⟩

theorem sep_new {W0 N : Nat} {v1 v2 y1 y2 : Value} (h1 : y1.ownBlock = v1.ownBlock ∨ y1.ownBlock = some N) (h2 : y2.ownBlock = v2.ownBlock ∨ ∃ b, y2.ownBlock = some b ∧ W0 ≤ b) (hl : ∀ b, y2.ownBlock = some b → b < N) (lo : ∀ r, v1.ownBlock = some r → r < W0) (ap : ∀ r, v1.ownBlock = some r → v2.ownBlock ≠ some r) : ∀ b, y1.ownBlock = some b → y2.ownBlock ≠ some b := by
  intro b e1 e2
  rcases h1 with h1 | h1
  · rcases h2 with h2 | ⟨c, h2, h3⟩
    · exact ap b (h1 ▸ e1) (h2 ▸ e2)
    · rw [h2] at e2
      cases e2
      have := lo b (h1 ▸ e1)
      omega
  · rw [h1] at e1
    cases e1
    have := hl N e2
    omega

theorem keep_p {L : Nat} {y y2 : World} {p : Nat} {o : Obj} (hp : y.heap[p]? = some o) (hb : But (fun b => L ≤ b ∧ b ≠ p) y y2) : y2.heap[p]? = some o := (hb.block p (blk_lt hp) (fun h => h.2 rfl)).trans hp

theorem keep_b {w y y2 : World} {p : Nat} (h : Below w.heap.size w y) (hb : But (fun b => w.heap.size ≤ b ∧ b ≠ p) y y2) : Below w.heap.size w y2 := h.trans (hb.below h.size (fun b hb h => by omega))

theorem keep_apart {w : World} {p : Nat} {a : Option Addr} {n cp : Nat} {ks : List Bool} (h : Rw w (.slice a n cp) (bo ks)) : 0 < ks.length → ∀ p' n' cp', Value.slice a n cp = .slice (some p') n' cp' → ¬ (w.heap.size ≤ p'.block ∧ p'.block ≠ p) := by
  intro hk p' n' cp' e
  obtain ⟨b, off, ea, hc⟩ := h.cell (i := 0) (by simpa [bo] using hk)
  have hb : b < w.heap.size := cell_lt hc
  subst ea
  cases e
  rintro ⟨h1, -⟩
  exact absurd (Nat.lt_of_lt_of_le hb h1) (Nat.lt_irrefl _)

set_option maxRecDepth 100000 in
set_option maxHeartbeats 8000000 in
theorem walk (a0 : Int) (a1 : Option Addr) (len1 cap1 : Nat) (z1 : List (Int × Int × List Int × List Bool)) (w : World) (w0 : (Lit.int .i64 a0).wf = true) (w1 : Ops w (.slice a1 len1 cap1) z1) :
    Calls Try.prog 3 #[.int .i64 a0, .slice a1 len1 cap1] w fun e w' => e = .returned (.bool true) ∧ Below w.heap.size w w' := by
  clear w0
  obtain ⟨hlc, hcm⟩ := w1.len
  have HO := hide w1
  clear w1
  obtain ⟨n, hn1, hn8, hmn⟩ : ∃ n : Nat, 1 ≤ n ∧ n ≤ 8 ∧ max 1 (min a0 8) = (n : Int) := ⟨(max 1 (min a0 8)).toNat, by omega, by omega, by omega⟩
  go_enter Try.func3, Try.ntmps3
  go_wp2_with fail
  refine (begun_any _).mono ?_
  rintro e x1 ⟨rfl, hB1⟩
  have HB1 := hide hB1
  clear hB1
  go_wp2_with fail
  refine (new_any _ n hn1 (by omega)).mono ?_
  rintro e x2 ⟨g, bl, bm, rfl, h2, hg, hbl, hbm, hB2⟩
  have H2 := hide h2
  have HB2 := hide (HB1.out.trans (hB2.mono HB1.out.size))
  have Hg : Hid (w.heap.size ≤ g ∧ w.heap.size ≤ bl ∧ w.heap.size ≤ bm) := by have := HB1.out.size; exact ⟨by omega, by omega, by omega⟩
  clear h2 hB2 HB1 hg hbl hbm
  go_wp2_with fail
  have Hme : Hid ((x2.alloc (.cells #[.slice none 0 0, .slice none 0 0, .slice none 0 0, .int .i64 0, .int .i64 (-1)] 30)).heap[x2.heap.size]? = some (.cells #[.slice none 0 0, .slice none 0 0, .slice none 0 0, .int .i64 0, .int .i64 (-1)] 30 (0, 0))) := heap_alloc_last x2 _
  have Hx3 : Hid ((x2.alloc (.cells #[.slice none 0 0, .slice none 0 0, .slice none 0 0, .int .i64 0, .int .i64 (-1)] 30)).heap.size = x2.heap.size + 1) := by show _ = _; simp
  have H3 := hide (H2.out.later ((Below.refl _ _).alloc (Nat.le_refl _) (.cells #[.slice none 0 0, .slice none 0 0, .slice none 0 0, .int .i64 0, .int .i64 (-1)] 30)))
  have HB3 := hide (HB2.out.alloc HB2.out.size (.cells #[.slice none 0 0, .slice none 0 0, .slice none 0 0, .int .i64 0, .int .i64 (-1)] 30))
  have Hl2 := hide H2.out.lts
  have Hwq := hide HB2.out.size
  generalize x2.alloc (.cells #[.slice none 0 0, .slice none 0 0, .slice none 0 0, .int .i64 0, .int .i64 (-1)] 30) = x3 at *
  clear H2 HB2
  generalize x2.heap.size = q at *
  go_loopw [8] (fun iv wr => ∃ k : Nat, k ≤ n ∧ iv = .int .i64 k ∧ (∃ vn vs vo ln ls, Hid (Bd x3.heap.size wr q k vn vs vo ln ls)) ∧ Hid (But (· = q) x3 wr)) (fun iv _ => n - (RowKit.intOf iv).toNat)
  case atStart => exact ⟨0, Nat.zero_le _, rfl, ⟨_, _, _, [], [], ⟨Hme.out, World.ownsRow_nil _ _ _ _, World.ownsRow_nil _ _ _ _, World.ownsRow_nil _ _ _ _, by simp, by simp, (by intro b e; cases e), (by rw [Hx3.out]; omega)⟩⟩, But.refl _ _⟩
  case round =>
    obtain ⟨k, hk, rfl, ⟨vn, vs, vo, ln, ls, HD⟩, HB⟩ := hrel
    clear Hme
    by_cases hkn : k < n
    · have hql := blk_lt HD.out.me
      have hqB := HD.out.qB
      have lowN : ∀ r, vn.ownBlock = some r → x3.heap.size ≤ r ∧ r < wr.heap.size := HD.out.nn.lt
      have lowS : ∀ r, vs.ownBlock = some r → x3.heap.size ≤ r ∧ r < wr.heap.size := HD.out.ss.lt
      have lowO : ∀ r, vo.ownBlock = some r → x3.heap.size ≤ r ∧ r < wr.heap.size := HD.out.oo.lt
      have hqR : ¬ Rows3 vn vs vo q := by
        rintro (e | e | e)
        · have := lowN q e; omega
        · have := lowS q e; omega
        · have := lowO q e; omega
      have apNS := HD.out.ap
      have apNO : ∀ r, vn.ownBlock = some r → vo.ownBlock ≠ some r := fun r e1 e2 => by
        obtain ⟨c1, h1⟩ := own_type HD.out.nn e1
        obtain ⟨c2, h2⟩ := own_type HD.out.oo e2
        rw [h1] at h2
        simp at h2
      have apSO : ∀ r, vs.ownBlock = some r → vo.ownBlock ≠ some r := fun r e1 e2 => by
        obtain ⟨c1, h1⟩ := own_type HD.out.ss e1
        obtain ⟨c2, h2⟩ := own_type HD.out.oo e2
        rw [h1] at h2
        simp at h2
      have Hne : Hid (∀ W, But (Rows3 vn vs vo) wr W → W.cell? ⟨q, 0, none⟩ = some vn ∧ W.cell? ⟨q, 1, none⟩ = some vs ∧ W.cell? ⟨q, 2, none⟩ = some vo) := fun W hW =>
        ⟨by rw [hW.cell (p := ⟨q, 0, none⟩) hql hqR]; exact cell_blk HD.out.me rfl, by rw [hW.cell (p := ⟨q, 1, none⟩) hql hqR]; exact cell_blk HD.out.me rfl, by rw [hW.cell (p := ⟨q, 2, none⟩) hql hqR]; exact cell_blk HD.out.me rfl⟩
      go_wp2_with fail
      refine wp_region_noPanic ?_
      refine wp_region_P 25 (fun W => But (Rows3 vn vs vo) wr W) (by kernel_rfl) (But.refl _ _).drew (fun hHeld => ?_)
      refine wpAnyP_takeU (i := 0) (v := ?_) rfl (by kernel_rfl) (by kernel_rfl) (by kernel_rfl) (by decide) (fun _ _ _ h => h) (Or.inl ⟨by kernel_rfl, ?_⟩) hHeld ?_
      rotate_left
      · intro W hW; clear hW; go_simp; first | done | with_reducible rfl
      try simp only [Act.put, List.getElem_toArray, List.getElem_cons_zero, List.setIfInBounds_toArray, List.set_cons_succ, List.set_cons_zero]
      refine wpAnyP_takeU (i := 1) (v := ?_) rfl (by kernel_rfl) (by kernel_rfl) (by kernel_rfl) (by decide) (fun _ _ _ h => h) (Or.inl ⟨by kernel_rfl, ?_⟩) hHeld ?_
      rotate_left
      · intro W hW; clear hW; go_simp; first | done | with_reducible rfl
      try simp only [Act.put, List.getElem_toArray, List.getElem_cons_zero, List.getElem_cons_succ, List.setIfInBounds_toArray, List.set_cons_succ, List.set_cons_zero]
      refine wpAnyP_takeU (i := 2) (v := ?_) rfl (by kernel_rfl) (by kernel_rfl) (by kernel_rfl) (by decide) (fun _ _ _ h => h) (Or.inl ⟨by kernel_rfl, ?_⟩) hHeld ?_
      rotate_left
      · intro W hW; clear hW; go_simp; first | done | with_reducible rfl
      try simp only [Act.put, List.getElem_toArray, List.getElem_cons_zero, List.getElem_cons_succ, List.setIfInBounds_toArray, List.set_cons_succ, List.set_cons_zero]
      refine wpAnyP_takeU (i := 3) (v := ?_) rfl (by kernel_rfl) (by kernel_rfl) (by kernel_rfl) (by decide) (fun _ _ _ h => h) (Or.inl ⟨by kernel_rfl, ?_⟩) hHeld ?_
      rotate_left
      · intro W hW; clear hW; go_simp; first | done | with_reducible rfl
      try simp only [Act.put, List.getElem_toArray, List.getElem_cons_zero, List.getElem_cons_succ, List.setIfInBounds_toArray, List.set_cons_succ, List.set_cons_zero]
      refine wpAnyP_takeU (i := 4) (v := ?_) rfl (by kernel_rfl) (by kernel_rfl) (by kernel_rfl) (by decide) (fun _ _ _ h => h) (Or.inl ⟨by kernel_rfl, ?_⟩) hHeld ?_
      rotate_left
      · intro W hW; clear hW; go_simp; first | done | with_reducible rfl
      try simp only [Act.put, List.getElem_toArray, List.getElem_cons_zero, List.getElem_cons_succ, List.setIfInBounds_toArray, List.set_cons_succ, List.set_cons_zero]
      refine wpAnyP_takeU (i := 5) (v := ?_) rfl (by kernel_rfl) (by kernel_rfl) (by kernel_rfl) (by decide) (fun _ _ _ h => h) (Or.inl ⟨by kernel_rfl, ?_⟩) hHeld ?_
      rotate_left
      · intro W hW; clear hW; go_simp; first | done | with_reducible rfl
      try simp only [Act.put, List.getElem_toArray, List.getElem_cons_zero, List.getElem_cons_succ, List.setIfInBounds_toArray, List.set_cons_succ, List.set_cons_zero]
      refine wpAnyP_take (i := 6) (v := vn) rfl (by kernel_rfl) (by kernel_rfl) (by kernel_rfl) (by kernel_rfl) (by kernel_rfl) (by decide) (fun _ _ _ h => h) (Or.inl ⟨by kernel_rfl, ?_⟩) hHeld ?_
      · intro W hW; obtain ⟨g0, -, -⟩ := Hne.out W hW; go_simp; first | done | with_reducible rfl
      try simp only [Act.put, List.getElem_toArray, List.getElem_cons_zero, List.getElem_cons_succ, List.setIfInBounds_toArray, List.set_cons_succ, List.set_cons_zero]
      refine wpAnyP_takeU (i := 10) (v := ?_) rfl (by kernel_rfl) (by kernel_rfl) (by kernel_rfl) (by decide) (fun _ _ _ h => h) (Or.inl ⟨by kernel_rfl, ?_⟩) hHeld ?_
      rotate_left
      · intro W hW; clear hW; go_simp; first | done | with_reducible rfl
      try simp only [Act.put, List.getElem_toArray, List.getElem_cons_zero, List.getElem_cons_succ, List.setIfInBounds_toArray, List.set_cons_succ, List.set_cons_zero]
      refine wpAnyP_takeU (i := 11) (v := ?_) rfl (by kernel_rfl) (by kernel_rfl) (by kernel_rfl) (by decide) (fun _ _ _ h => h) (Or.inl ⟨by kernel_rfl, ?_⟩) hHeld ?_
      rotate_left
      · intro W hW; clear hW; go_simp; first | done | with_reducible rfl
      try simp only [Act.put, List.getElem_toArray, List.getElem_cons_zero, List.getElem_cons_succ, List.setIfInBounds_toArray, List.set_cons_succ, List.set_cons_zero]
      refine wpAnyP_takeU (i := 12) (v := ?_) rfl (by kernel_rfl) (by kernel_rfl) (by kernel_rfl) (by decide) (fun _ _ _ h => h) (Or.inl ⟨by kernel_rfl, ?_⟩) hHeld ?_
      rotate_left
      · intro W hW; clear hW; go_simp; first | done | with_reducible rfl
      try simp only [Act.put, List.getElem_toArray, List.getElem_cons_zero, List.getElem_cons_succ, List.setIfInBounds_toArray, List.set_cons_succ, List.set_cons_zero]
      refine wpAnyP_take (i := 13) (v := vs) rfl (by kernel_rfl) (by kernel_rfl) (by kernel_rfl) (by kernel_rfl) (by kernel_rfl) (by decide) (fun _ _ _ h => h) (Or.inl ⟨by kernel_rfl, ?_⟩) hHeld ?_
      · intro W hW; obtain ⟨-, g0, -⟩ := Hne.out W hW; go_simp; first | done | with_reducible rfl
      try simp only [Act.put, List.getElem_toArray, List.getElem_cons_zero, List.getElem_cons_succ, List.setIfInBounds_toArray, List.set_cons_succ, List.set_cons_zero]
      refine wpAnyP_takeU (i := 17) (v := ?_) rfl (by kernel_rfl) (by kernel_rfl) (by kernel_rfl) (by decide) (fun _ _ _ h => h) (Or.inl ⟨by kernel_rfl, ?_⟩) hHeld ?_
      rotate_left
      · intro W hW; clear hW; go_simp; first | done | with_reducible rfl
      try simp only [Act.put, List.getElem_toArray, List.getElem_cons_zero, List.getElem_cons_succ, List.setIfInBounds_toArray, List.set_cons_succ, List.set_cons_zero]
      refine wpAnyP_takeU (i := 18) (v := ?_) rfl (by kernel_rfl) (by kernel_rfl) (by kernel_rfl) (by decide) (fun _ _ _ h => h) (Or.inl ⟨by kernel_rfl, ?_⟩) hHeld ?_
      rotate_left
      · intro W hW; clear hW; go_simp; first | done | with_reducible rfl
      try simp only [Act.put, List.getElem_toArray, List.getElem_cons_zero, List.getElem_cons_succ, List.setIfInBounds_toArray, List.set_cons_succ, List.set_cons_zero]
      refine wpAnyP_takeU (i := 19) (v := ?_) rfl (by kernel_rfl) (by kernel_rfl) (by kernel_rfl) (by decide) (fun _ _ _ h => h) (Or.inl ⟨by kernel_rfl, ?_⟩) hHeld ?_
      rotate_left
      · intro W hW; clear hW; go_simp; first | done | with_reducible rfl
      try simp only [Act.put, List.getElem_toArray, List.getElem_cons_zero, List.getElem_cons_succ, List.setIfInBounds_toArray, List.set_cons_succ, List.set_cons_zero]
      refine wpAnyP_take (i := 20) (v := vo) rfl (by kernel_rfl) (by kernel_rfl) (by kernel_rfl) (by kernel_rfl) (by kernel_rfl) (by decide) (fun _ _ _ h => h) (Or.inl ⟨by kernel_rfl, ?_⟩) hHeld ?_
      · intro W hW; obtain ⟨-, -, g0⟩ := Hne.out W hW; go_simp; first | done | with_reducible rfl
      try simp only [Act.put, List.getElem_toArray, List.getElem_cons_zero, List.getElem_cons_succ, List.setIfInBounds_toArray, List.set_cons_succ, List.set_cons_zero]
      refine wpAnyP_chains 3 3 2 cA cB cC L8 9 (Iv wr x3.heap.size k vn vs vo ln ls) (by kernel_rfl) (by kernel_rfl) (by kernel_rfl) (by decide +kernel) (by decide +kernel) (by decide +kernel) ?stepA ?stepB ?stepC ?fin ?start
      case start => exact Iv.start (fun _ _ _ => ⟨fun h => by omega, ⟨fun _ => HD.out.nn, fun h => by omega, fun h => by omega, lowN⟩⟩) (fun _ _ _ => ⟨fun h => by omega, ⟨fun _ => HD.out.ss, fun h => by omega, fun h => by omega, lowS⟩⟩) (fun _ _ => ⟨fun _ => HD.out.oo, fun h => by omega, fun h => by omega, lowO⟩) hHeld
      case stepA =>
        intro i hi j m a W hI
        obtain ⟨x35, x36, x37, x42, x43, x44, x49, x50, rfl, hA, hB, hC, hS, hy⟩ := hI
        have hW0 := hS.size
        match i, hi with
        | 0, _ =>
          refine wpOp_step rfl (fun K hK => ?_)
          rw [if_pos (by kernel_rfl)]
          refine wp_make64 (.const (.int .i64 64)) rfl rfl ?_
          intro W' v hN ho hg
          exact hK _ _ ⟨hS.grow hg (fun r e => by cases e), v, x36, x37, x42, x43, x44, x49, x50, (by kernel_rfl), hA.step1 hg hN ho hW0, hB.kept hg (fun r e => by cases e), hC.kept hg (fun r e => by cases e), hS.grow hg (fun r e => by cases e), (fun h => by omega)⟩
        | 1, _ =>
          refine wpOp_step rfl (fun K hK => ?_)
          rw [if_pos (by kernel_rfl)]
          refine wp_build1 27 31 _ 24 Try.underlying27 infoS rfl (.tmp 35) rfl x35 (by kernel_rfl) (hA.made (by omega)).1.one ?_
          have hg := World.grownBy_alloc W (.cells #[x35] 31) none
          exact hK _ _ ⟨hS.grow hg (fun r e => by cases e), x35, _, x37, x42, x43, x44, x49, x50, (by kernel_rfl), hA.step2 hW0, hB.kept hg (fun r e => by cases e), hC.kept hg (fun r e => by cases e), hS.grow hg (fun r e => by cases e), (fun h => by omega)⟩
        | 2, _ =>
          refine wpOp_step rfl (fun K hK => ?_)
          rw [if_pos (by kernel_rfl)]
          obtain ⟨c, rfl, hc, -⟩ := hA.row.one (by omega)
          refine wp_app1 27 31 _ 24 Try.underlying27 infoS rfl (by omega) (.tmp 34) (.tmp 36) rfl x3.heap.size vn k ln c x35 (by kernel_rfl) (by kernel_rfl) (by omega) (hA.row.old (by omega)) hc (hA.made (by omega)).1.one (by have := HB.out.size; omega) ?_
          intro v' W' ho hg hl
          exact hK _ _ ⟨hS.grow hg (fun r e => .inl e), x35, _, v', x42, x43, x44, x49, x50, (by kernel_rfl), hA.step3 ho hg hl hW0, hB.kept hg (fun r e => ⟨(lowN r e).2, apNS r e⟩), hC.kept hg (fun r e => ⟨(lowN r e).2, apNO r e⟩), hS.grow hg (fun r e => .inl e), (fun _ h3 => sep_new hl (hB.row.new (by omega)).2 (fun b hb => ((hB.row.new (by omega)).1.lt b hb).2) (fun r e => (lowN r e).2) apNS)⟩
      case stepB =>
        intro j hj i m a W hI
        obtain ⟨x35, x36, x37, x42, x43, x44, x49, x50, rfl, hA, hB, hC, hS, hy⟩ := hI
        have hW0 := hS.size
        match j, hj with
        | 0, _ =>
          refine wpOp_step rfl (fun K hK => ?_)
          rw [if_pos (by kernel_rfl)]
          refine wp_make64 (.const (.int .i64 64)) rfl rfl ?_
          intro W' v hN ho hg
          exact hK _ _ ⟨hS.grow hg (fun r e => by cases e), x35, x36, x37, v, x43, x44, x49, x50, (by kernel_rfl), hA.kept hg (fun r e => by cases e), hB.step1 hg hN ho hW0, hC.kept hg (fun r e => by cases e), hS.grow hg (fun r e => by cases e), (fun _ h => by omega)⟩
        | 1, _ =>
          refine wpOp_step rfl (fun K hK => ?_)
          rw [if_pos (by kernel_rfl)]
          refine wp_build1 27 31 _ 24 Try.underlying27 infoS rfl (.tmp 42) rfl x42 (by kernel_rfl) (hB.made (by omega)).1.one ?_
          have hg := World.grownBy_alloc W (.cells #[x42] 31) none
          exact hK _ _ ⟨hS.grow hg (fun r e => by cases e), x35, x36, x37, x42, _, x44, x49, x50, (by kernel_rfl), hA.kept hg (fun r e => by cases e), hB.step2 hW0, hC.kept hg (fun r e => by cases e), hS.grow hg (fun r e => by cases e), (fun _ h => by omega)⟩
        | 2, _ =>
          refine wpOp_step rfl (fun K hK => ?_)
          rw [if_pos (by kernel_rfl)]
          obtain ⟨c, rfl, hc, -⟩ := hB.row.one (by omega)
          refine wp_app1 27 31 _ 24 Try.underlying27 infoS rfl (by omega) (.tmp 41) (.tmp 43) rfl x3.heap.size vs k ls c x42 (by kernel_rfl) (by kernel_rfl) (by omega) (hB.row.old (by omega)) hc (hB.made (by omega)).1.one (by have := HB.out.size; omega) ?_
          intro v' W' ho hg hl
          exact hK _ _ ⟨hS.grow hg (fun r e => .inr (.inl e)), x35, x36, x37, x42, _, v', x49, x50, (by kernel_rfl), hA.kept hg (fun r e => ⟨(lowS r e).2, fun e2 => apNS r e2 e⟩), hB.step3 ho hg hl hW0, hC.kept hg (fun r e => ⟨(lowS r e).2, apSO r e⟩), hS.grow hg (fun r e => .inr (.inl e)), (fun h3 _ b e1 e2 => sep_new hl (hA.row.new (by omega)).2 (fun b hb => ((hA.row.new (by omega)).1.lt b hb).2) (fun r e => (lowS r e).2) (fun r e1 e2 => apNS r e2 e1) b e2 e1)⟩
      case stepC =>
        intro m hm i j a W hI
        obtain ⟨x35, x36, x37, x42, x43, x44, x49, x50, rfl, hA, hB, hC, hS, hy⟩ := hI
        have hW0 := hS.size
        match m, hm with
        | 0, _ =>
          refine wpOp_step rfl (fun K hK => ?_)
          rw [if_pos (by kernel_rfl)]
          refine wp_build1 28 4 _ 1 Try.underlying28 infoB rfl (.const (.bool false)) rfl (.bool false) rfl rfl ?_
          have hg := World.grownBy_alloc W (.cells #[.bool false] 4) none
          exact hK _ _ ⟨hS.grow hg (fun r e => by cases e), x35, x36, x37, x42, x43, x44, _, x50, (by kernel_rfl), hA.kept hg (fun r e => by cases e), hB.kept hg (fun r e => by cases e), hC.step1 hW0, hS.grow hg (fun r e => by cases e), hy⟩
        | 1, _ =>
          refine wpOp_step rfl (fun K hK => ?_)
          rw [if_pos (by kernel_rfl)]
          obtain ⟨c, rfl, hc, -⟩ := hC.one (by omega)
          refine wp_app1 28 4 _ 1 Try.underlying28 infoB rfl (by omega) (.tmp 48) (.tmp 49) rfl x3.heap.size vo k _ c (.bool false) (by kernel_rfl) (by kernel_rfl) (by omega) (hC.old (by omega)) hc rfl (by have := HB.out.size; omega) ?_
          intro v' W' ho hg hl
          exact hK _ _ ⟨hS.grow hg (fun r e => .inr (.inr e)), x35, x36, x37, x42, x43, x44, _, v', (by kernel_rfl), hA.kept hg (fun r e => ⟨(lowO r e).2, fun e2 => apNO r e2 e⟩), hB.kept hg (fun r e => ⟨(lowO r e).2, fun e2 => apSO r e2 e⟩), hC.step2 ho hg hl hW0, hS.grow hg (fun r e => .inr (.inr e)), hy⟩
      case fin =>
        intro a W hI
        obtain ⟨x35, x36, x37, x42, x43, x44, x49, x50, rfl, hA, hB, hC, hHeld, hy⟩ := hI
        obtain ⟨b1, c1, rfl⟩ := own_shape (hA.row.new (Nat.le_refl _)).1
        obtain ⟨b2, c2, rfl⟩ := own_shape (hB.row.new (Nat.le_refl _)).1
        obtain ⟨b3, c3, rfl⟩ := own_shape (hC.new (Nat.le_refl _)).1
        have hqW := (hHeld.block q hql hqR).trans HD.out.me
        have hc0 := cell_blk (k := 0) hqW rfl
        have hc1 := cell_blk (k := 1) hqW rfl
        have hc2 := cell_blk (k := 2) hqW rfl
        have hf0 := frozen_blk 0 hqW
        have hf1 := frozen_blk 1 hqW
        have hf2 := frozen_blk 2 hqW
        have HqW := hide hqW
        have HA := hide hA
        have HB0 := hide hB
        have HC := hide hC
        have Hy := hide (hy rfl rfl)
        have HS := hide hHeld
        clear hqW hA hB hC hy Hne
        simp only [P8]
        simp only [Act.put, List.setIfInBounds_toArray, List.set_cons_succ, List.set_cons_zero]
        refine wpAnyP_takeU (i := 23) (v := ?_) rfl (by kernel_rfl) (by kernel_rfl) (by kernel_rfl) (by decide) (fun _ _ _ h => h) (Or.inl ⟨by kernel_rfl, ?_⟩) hHeld ?_
        rotate_left
        · intro W hW; clear hW; go_simp; first | done | with_reducible rfl
        try simp only [Act.put, List.getElem_toArray, List.getElem_cons_zero, List.getElem_cons_succ, List.setIfInBounds_toArray, List.set_cons_succ, List.set_cons_zero]
        refine wpAnyP_takeU (i := 24) (v := ?_) rfl (by kernel_rfl) (by kernel_rfl) (by kernel_rfl) (by decide) (fun _ _ _ h => h) (Or.inl ⟨by kernel_rfl, ?_⟩) hHeld ?_
        rotate_left
        · intro W hW; clear hW; go_simp; first | done | with_reducible rfl
        try simp only [Act.put, List.getElem_toArray, List.getElem_cons_zero, List.getElem_cons_succ, List.setIfInBounds_toArray, List.set_cons_succ, List.set_cons_zero]
        refine wpAnyP_ready (rs := [25]) (by kernel_rfl) (by simp) ?_
        refine AllReadyP.late (o := _) rfl (by kernel_rfl) (fun K hK => ?_)
        rw [if_pos (by kernel_rfl)]
        go_simp
        refine hK.out _ _ ?_
        clear hK K
        try simp only [Act.put, List.getElem_toArray, List.getElem_cons_zero, List.getElem_cons_succ]
        refine wpAnyP_ready (rs := [26]) (by kernel_rfl) (by simp) ?_
        refine AllReadyP.late (o := _) rfl (by kernel_rfl) (fun K hK => ?_)
        rw [if_pos (by kernel_rfl)]
        go_simp
        refine hK.out _ _ ?_
        clear hK K
        try simp only [Act.put, List.getElem_toArray, List.getElem_cons_zero, List.getElem_cons_succ, List.setIfInBounds_toArray, List.set_cons_succ, List.set_cons_zero]
        refine wpAnyP_ready (rs := [27]) (by kernel_rfl) (by simp) ?_
        refine AllReadyP.late (o := _) rfl (by kernel_rfl) (fun K hK => ?_)
        rw [if_pos (by kernel_rfl)]
        go_simp
        refine hK.out _ _ ?_
        clear hK K
        try simp only [Act.put, List.getElem_toArray, List.getElem_cons_zero, List.getElem_cons_succ, List.setIfInBounds_toArray, List.set_cons_succ, List.set_cons_zero]
        refine wpAnyP_ready (rs := [28]) (by kernel_rfl) (by simp) ?_
        refine AllReadyP.late (o := _) rfl (by kernel_rfl) (fun K hK => ?_)
        rw [if_pos (by kernel_rfl)]
        go_simp
        refine hK.out _ _ ?_
        clear hK K
        try simp only [Act.put, List.getElem_toArray, List.getElem_cons_zero, List.getElem_cons_succ]
        refine wpAnyP_ready (rs := [29]) (by kernel_rfl) (by simp) ?_
        refine AllReadyP.late (o := _) rfl (by kernel_rfl) (fun K hK => ?_)
        rw [if_pos (by kernel_rfl)]
        go_simp
        refine hK.out _ _ ?_
        clear hK K
        try simp only [Act.put, List.getElem_toArray, List.getElem_cons_zero, List.getElem_cons_succ, List.setIfInBounds_toArray, List.set_cons_succ, List.set_cons_zero]
        refine wpAnyP_ready (rs := [30]) (by kernel_rfl) (by simp) ?_
        refine AllReadyP.late (o := _) rfl (by kernel_rfl) (fun K hK => ?_)
        rw [if_pos (by kernel_rfl)]
        go_simp
        refine hK.out _ _ ?_
        clear hK K
        try simp only [Act.put, List.getElem_toArray, List.getElem_cons_zero, List.getElem_cons_succ, List.setIfInBounds_toArray, List.set_cons_succ, List.set_cons_zero]
        refine wpAnyP_ready (rs := [31]) (by kernel_rfl) (by simp) ?_
        refine AllReadyP.late (o := _) rfl (by kernel_rfl) (fun K hK => ?_)
        rw [if_pos (by kernel_rfl)]
        go_simp
        refine hK.out _ _ ?_
        clear hK K
        try simp only [Act.put, List.getElem_toArray, List.getElem_cons_zero, List.getElem_cons_succ]
        refine wpAnyP_done (by kernel_rfl) ?_ _
        refine NoPanic.normal ?_
        have HW := hide (((But.one W q 0 (.slice (some ⟨b1, 0, none⟩) (k + 1) c1)).trans (But.one _ q 1 (.slice (some ⟨b2, 0, none⟩) (k + 1) c2))).trans (But.one _ q 2 (.slice (some ⟨b3, 0, none⟩) (k + 1) c3)))
        have HD2 := hide (HD.out.more HS.out HA.out HB0.out HC.out Hy.out HW.out (set3 HqW.out))
        have HB2 : Hid (But (· = q) x3 (((W.setCell ⟨q, 0, none⟩ (.slice (some ⟨b1, 0, none⟩) (k + 1) c1)).setCell ⟨q, 1, none⟩ (.slice (some ⟨b2, 0, none⟩) (k + 1) c2)).setCell ⟨q, 2, none⟩ (.slice (some ⟨b3, 0, none⟩) (k + 1) c3))) :=
          (((HB.out.mono (S' := fun b => b = q ∨ x3.heap.size ≤ b) fun _ _ e => .inl e).trans (HS.out.mono fun r _ e => .inr (by
            rcases e with e | e | e
            · exact (lowN r e).1
            · exact (lowS r e).1
            · exact (lowO r e).1))).trans (HW.out.mono fun _ _ e => .inl e)).mono fun r hr e => e.resolve_right (by omega)
        clear HA HB0 HC Hy HS HqW HW hc0 hc1 hc2 hf0 hf1 hf2 HD HB
        go_wp2_with fail
        go_roundw
        case rel => exact ⟨k + 1, by omega, by simp, ⟨_, _, _, _, _, HD2⟩, HB2⟩
        simp [RowKit.intOf]
        omega
    · obtain rfl : k = n := by omega
      have HD4 : Hid (Duo (w.heap.size ≤ ·) wr g q (Dv.new k) (Dv.new k)) := HD.out.duo hn1 hn8 (H3.out.but HB.out (by have := Hl2.out; omega) (by have := Hl2.out; omega) (by have := Hl2.out; omega)) ⟨Hg.out.1, Hg.out.2.1, Hg.out.2.2, Hwq.out⟩
      have HB4 : Hid (Below w.heap.size w wr) := HB3.out.trans (HB.out.below HB3.out.size (fun b hb e => by have := Hwq.out; omega))
      clear HD HB H3 HB3 Hg Hl2 Hwq Hx3
      go_wp2_with fail
      go_loopw [6, 9] (fun vd iv W => ∃ (i g' : Nat) (d : Dv), i ≤ len1 ∧ i ≤ 50 ∧ iv = .int .i64 i ∧ vd = .pointer (some ⟨g', 0, none⟩) ∧ d.n = k ∧ d.calls ≤ i ∧ Hid (Duo (w.heap.size ≤ ·) W g' q d d) ∧ Hid (Below w.heap.size w W)) (fun _ iv _ => 50 - (RowKit.intOf iv).toNat)
      case atStart => exact ⟨0, g, Dv.new k, Nat.zero_le _, Nat.zero_le _, rfl, rfl, rfl, Nat.zero_le _, HD4, HB4⟩
      case round =>
        clear HD4 HB4
        rename_i wr4 _ W4 _ _
        obtain ⟨i, g', d, hil, hi50, rfl, rfl, hdn, hdc, HD, HB⟩ := hrel
        by_cases hboth : i < len1 ∧ i < 50
        · obtain ⟨hlt, h50⟩ := hboth
          obtain ⟨b, off, pB, nB, cB, pK, nK, cK, kind, z, bs, ks, rfl, c0, c1, c2, c3, z1, z2, HSl, HRw⟩ := HO.out.at_ HB.out hlt
          have HcN : Hid (-9223372036854775808 ≤ z ∧ z ≤ 9223372036854775807) := ⟨z1, z2⟩
          go_wp2_with fail
          have hb5 : Below wr.heap.size wr (wr.alloc (.cells #[.int .i64 kind, .int .i64 z, .slice pB nB cB, .slice pK nK cK] 33)) := (Below.refl _ _).alloc (Nat.le_refl _) _
          have Hme := hide (heap_alloc_last wr (.cells #[.int .i64 kind, .int .i64 z, .slice pB nB cB, .slice pK nK cK] 33))
          generalize wr.alloc (.cells #[.int .i64 kind, .int .i64 z, .slice pB nB cB, .slice pK nK cK] 33) = x5 at *
          refine (short_low _ bs 70 w x5 HSl.out).mono ?_
          rintro e x6 ⟨v', rfl, hv', rfl⟩
          obtain ⟨pS, nS, cS, rfl, hnc, hcS, HnS, HvS⟩ := hv'.opens
          have Hb6 : Hid (Below wr.heap.size wr (x6.setCell ⟨wr.heap.size, 2, none⟩ (.slice pS nS cS))) := hb5.trans ((But.one x6 wr.heap.size 2 (.slice pS nS cS)).below hb5.size (fun k hk e => by omega))
          have HB6 := hide (HB.out.trans (Hb6.out.mono HB.out.size))
          have HD6 := hide (HD.out.fresh Hb6.out (by have := blk_lt (heap_setCell_same Hme.out (k := 2) (.slice pS nS cS)); exact this))
          have Hm6 := hide (heap_setCell_same Hme.out (k := 2) (.slice pS nS cS))
          have q0 := cell_blk (k := 0) Hme.out rfl
          have q1 := cell_blk (k := 1) Hme.out rfl
          have q2 := cell_blk (k := 2) Hme.out rfl
          have q3 := cell_blk (k := 3) Hme.out rfl
          have qf := frozen_blk 2 Hme.out
          have Hsz := hide HB.out.size
          clear HD HB Hme hb5 hv' c0 c1 c2 c3 Hb6
          generalize wr.heap.size = p at *
          by_cases h0 : kind = 0
          · subst h0
            go_wp2_with fail
            have r1 := cell_blk (k := 1) Hm6.out rfl
            have r2 := cell_blk (k := 2) Hm6.out rfl
            have r3 := cell_blk (k := 3) Hm6.out rfl
            generalize x6.setCell ⟨p, 2, none⟩ (.slice pS nS cS) = y at *
            clear q0 q1 q2 q3 qf
            cases hdd : d.dead
            · skip
              have hcd := HD6.out.dead
              rw [hdd] at hcd
              refine hcd.mono ?_
              rintro e y1 ⟨rfl, rfl⟩
              clear hcd
              by_cases hzn : z < 0
              · go_wp2_with fail
                refine (HD6.out.writeOut hdd (by omega) _).mono ?_
                rintro e y2 ⟨rfl, rfl⟩
                go_wp2_with fail
                refine (HD6.out.same).mono ?_
                rintro e y9 ⟨rfl, hD9, hB9⟩
                have HD9 := hide (hD9.mono (G' := (w.heap.size ≤ ·)) fun b h => h.1)
                have HB9 := hide (HB6.out.trans (hB9.mono HB6.out.size))
                clear hD9 hB9
                go_wp2_with fail
                go_roundw
                case rel => exact ⟨i + 1, _, d, by omega, by omega, by simp, rfl, hdn, by omega, HD9, HB9⟩
                simp [RowKit.intOf]
                omega
              by_cases hzk : (k : Int) ≤ z
              · go_wp2_with fail
                refine (HD6.out.writeOut hdd (by omega) _).mono ?_
                rintro e y2 ⟨rfl, rfl⟩
                go_wp2_with fail
                refine (HD6.out.same).mono ?_
                rintro e y9 ⟨rfl, hD9, hB9⟩
                have HD9 := hide (hD9.mono (G' := (w.heap.size ≤ ·)) fun b h => h.1)
                have HB9 := hide (HB6.out.trans (hB9.mono HB6.out.size))
                clear hD9 hB9
                go_wp2_with fail
                go_roundw
                case rel => exact ⟨i + 1, _, d, by omega, by omega, by simp, rfl, hdn, by omega, HD9, HB9⟩
                simp [RowKit.intOf]
                omega
              obtain ⟨j, rfl⟩ : ∃ j : Nat, z = j := ⟨z.toNat, by omega⟩
              by_cases h64 : nS ≤ 64
              · go_wp2_with fail
                refine (HD6.out.write hdd (by omega) (i := j) (by omega) (HvS.out.later HB6.out) (by rw [← HnS.out]; exact h64)).mono ?_
                rintro e y7 ⟨rfl, hD, hB⟩
                have Hm7 := hide (keep_p Hm6.out hB)
                have HB7 := hide (keep_b HB6.out hB)
                have HD7 := hide hD
                clear hD hB
                have s1 := cell_blk (k := 1) Hm7.out rfl
                have s2 := cell_blk (k := 2) Hm7.out rfl
                go_wp2_with fail
                refine (HD7.out.writes HD6.out.ok hdd (by omega) (i := j) (by omega) (HvS.out.later HB7.out) (by rw [← HnS.out]; exact h64)).mono ?_
                rintro e y8 ⟨rfl, hD, hB⟩
                have HB8 := hide (keep_b HB7.out hB)
                have HD8 := hide hD
                clear hD hB
                go_wp2_with fail
                refine (HD8.out.same).mono ?_
                rintro e y9 ⟨rfl, hD9, hB9⟩
                have HD9 := hide (hD9.mono (G' := (w.heap.size ≤ ·)) fun b h => h.1)
                have HB9 := hide (HB8.out.trans (hB9.mono HB8.out.size))
                clear hD9 hB9
                go_wp2_with fail
                go_roundw
                case rel => exact ⟨i + 1, _, (d.write j (bs.take 70)), by omega, by omega, by simp, rfl, hdn, Nat.succ_le_succ hdc, HD9, HB9⟩
                simp [RowKit.intOf]
                omega
              · go_wp2_with fail
                refine (HD6.out.writeLong hdd (i := j) (by omega) (HvS.out.later HB6.out) (by rw [← HnS.out]; omega)).mono ?_
                rintro e y2 ⟨rfl, rfl⟩
                go_wp2_with fail
                refine (HD6.out.same).mono ?_
                rintro e y9 ⟨rfl, hD9, hB9⟩
                have HD9 := hide (hD9.mono (G' := (w.heap.size ≤ ·)) fun b h => h.1)
                have HB9 := hide (HB6.out.trans (hB9.mono HB6.out.size))
                clear hD9 hB9
                go_wp2_with fail
                go_roundw
                case rel => exact ⟨i + 1, _, d, by omega, by omega, by simp, rfl, hdn, by omega, HD9, HB9⟩
                simp [RowKit.intOf]
                omega
            · skip
              have hcd := HD6.out.dead
              rw [hdd] at hcd
              refine hcd.mono ?_
              rintro e y1 ⟨rfl, rfl⟩
              clear hcd
              go_wp2_with fail
              refine (HD6.out.writeDead hdd _ _).mono ?_
              rintro e y2 ⟨rfl, rfl⟩
              go_wp2_with fail
              refine (HD6.out.same).mono ?_
              rintro e y9 ⟨rfl, hD9, hB9⟩
              have HD9 := hide (hD9.mono (G' := (w.heap.size ≤ ·)) fun b h => h.1)
              have HB9 := hide (HB6.out.trans (hB9.mono HB6.out.size))
              clear hD9 hB9
              go_wp2_with fail
              go_roundw
              case rel => exact ⟨i + 1, _, d, by omega, by omega, by simp, rfl, hdn, by omega, HD9, HB9⟩
              simp [RowKit.intOf]
              omega
          by_cases h1 : kind = 1
          · subst h1
            clear h0
            go_wp2_with fail
            have r1 := cell_blk (k := 1) Hm6.out rfl
            have r2 := cell_blk (k := 2) Hm6.out rfl
            have r3 := cell_blk (k := 3) Hm6.out rfl
            generalize x6.setCell ⟨p, 2, none⟩ (.slice pS nS cS) = y at *
            clear q0 q1 q2 q3 qf
            cases hdd : d.dead
            · skip
              have hcd := HD6.out.dead
              rw [hdd] at hcd
              refine hcd.mono ?_
              rintro e y1 ⟨rfl, rfl⟩
              clear hcd
              go_wp2_with fail
              refine (HD6.out.flushes HD6.out.ok hdd (by omega)).mono ?_
              rintro e y7 ⟨rfl, hD, hB⟩
              have Hm7 := hide (keep_p Hm6.out hB)
              have HB7 := hide (keep_b HB6.out hB)
              have HD7 := hide hD
              clear hD hB
              go_wp2_with fail
              refine (HD7.out.flush hdd (by omega)).mono ?_
              rintro e y8 ⟨rfl, hD, hB⟩
              have HB8 := hide (keep_b HB7.out hB)
              have HD8 := hide hD
              clear hD hB
              go_wp2_with fail
              refine (HD8.out.same).mono ?_
              rintro e y9 ⟨rfl, hD9, hB9⟩
              have HD9 := hide (hD9.mono (G' := (w.heap.size ≤ ·)) fun b h => h.1)
              have HB9 := hide (HB8.out.trans (hB9.mono HB8.out.size))
              clear hD9 hB9
              go_wp2_with fail
              go_roundw
              case rel => exact ⟨i + 1, _, d.flush, by omega, by omega, by simp, rfl, hdn, Nat.succ_le_succ hdc, HD9, HB9⟩
              simp [RowKit.intOf]
              omega
            · skip
              have hcd := HD6.out.dead
              rw [hdd] at hcd
              refine hcd.mono ?_
              rintro e y1 ⟨rfl, rfl⟩
              clear hcd
              go_wp2_with fail
              refine (HD6.out.flushDead hdd).mono ?_
              rintro e y2 ⟨rfl, rfl⟩
              go_wp2_with fail
              refine (HD6.out.same).mono ?_
              rintro e y9 ⟨rfl, hD9, hB9⟩
              have HD9 := hide (hD9.mono (G' := (w.heap.size ≤ ·)) fun b h => h.1)
              have HB9 := hide (HB6.out.trans (hB9.mono HB6.out.size))
              clear hD9 hB9
              go_wp2_with fail
              go_roundw
              case rel => exact ⟨i + 1, _, d, by omega, by omega, by simp, rfl, hdn, by omega, HD9, HB9⟩
              simp [RowKit.intOf]
              omega
          by_cases h2 : kind = 2
          · subst h2
            clear h0 h1
            go_wp2_with fail
            have r1 := cell_blk (k := 1) Hm6.out rfl
            have r2 := cell_blk (k := 2) Hm6.out rfl
            have r3 := cell_blk (k := 3) Hm6.out rfl
            generalize x6.setCell ⟨p, 2, none⟩ (.slice pS nS cS) = y at *
            clear q0 q1 q2 q3 qf
            refine (HD6.out.crash (HRw.out.later HB6.out)).mono ?_
            rintro e y7 ⟨g2, rfl, hD, hB⟩
            have Hm7 := hide (keep_p Hm6.out hB)
            have HB7 := hide (keep_b HB6.out hB)
            have HD7 := hide hD
            clear hD hB
            have s3 := cell_blk (k := 3) Hm7.out rfl
            go_wp2_with fail
            refine (HD7.out.crashes (HRw.out.later HB7.out) (keep_apart HRw.out)).mono ?_
            rintro e y8 ⟨rfl, hD, hB⟩
            have HB8 := hide (keep_b HB7.out hB)
            have HD8 := hide hD
            clear hD hB
            go_wp2_with fail
            refine (HD8.out.same).mono ?_
            rintro e y9 ⟨rfl, hD9, hB9⟩
            have HD9 := hide (hD9.mono (G' := (w.heap.size ≤ ·)) fun b h => h.1)
            have HB9 := hide (HB8.out.trans (hB9.mono HB8.out.size))
            clear hD9 hB9
            go_wp2_with fail
            go_roundw
            case rel => exact ⟨i + 1, _, (d.crash ks), by omega, by omega, by simp, rfl, hdn, Nat.zero_le _, HD9, HB9⟩
            simp [RowKit.intOf]
            omega
          · skip
            go_wp2_with fail
            have r1 := cell_blk (k := 1) Hm6.out rfl
            have r2 := cell_blk (k := 2) Hm6.out rfl
            have r3 := cell_blk (k := 3) Hm6.out rfl
            generalize x6.setCell ⟨p, 2, none⟩ (.slice pS nS cS) = y at *
            clear q0 q1 q2 q3 qf
            refine (HD6.out.fuse z (by omega)).mono ?_
            rintro e y7 ⟨rfl, hD, hB⟩
            have Hm7 := hide (keep_p Hm6.out hB)
            have HB7 := hide (keep_b HB6.out hB)
            have HD7 := hide hD
            clear hD hB
            go_wp2_with fail
            have s1 := cell_blk (k := 1) Hm7.out rfl
            cases hdd : d.dead
            · skip
              have hcd := HD7.out.dead
              rw [hdd] at hcd
              refine hcd.mono ?_
              rintro e y1 ⟨rfl, rfl⟩
              clear hcd
              obtain ⟨hq4, hf4⟩ := HD7.out.cells
              obtain ⟨x4, hq4⟩ := hq4
              have HS := hide (HD7.out.setFuse hdd z)
              go_wp2_with fail
              have HD8 := hide HS.out.1
              have HB8 := hide (keep_b HB7.out HS.out.2)
              clear HS
              refine (HD8.out.same).mono ?_
              rintro e y9 ⟨rfl, hD9, hB9⟩
              have HD9 := hide (hD9.mono (G' := (w.heap.size ≤ ·)) fun b h => h.1)
              have HB9 := hide (HB8.out.trans (hB9.mono HB8.out.size))
              clear hD9 hB9
              go_wp2_with fail
              go_roundw
              case rel => exact ⟨i + 1, _, (d.fused z), by omega, by omega, by simp, rfl, (by simp [Dv.fused, hdd, hdn]), (by simp [Dv.fused, hdd]; omega), HD9, HB9⟩
              simp [RowKit.intOf]
              omega
            · skip
              have hfd : d.fused z = d := by simp [Dv.fused, hdd]
              rw [hfd] at HD7
              have hcd := HD7.out.dead
              rw [hdd] at hcd
              refine hcd.mono ?_
              rintro e y1 ⟨rfl, rfl⟩
              clear hcd
              go_wp2_with fail
              refine (HD7.out.same).mono ?_
              rintro e y9 ⟨rfl, hD9, hB9⟩
              have HD9 := hide (hD9.mono (G' := (w.heap.size ≤ ·)) fun b h => h.1)
              have HB9 := hide (HB7.out.trans (hB9.mono HB7.out.size))
              clear hD9 hB9
              go_wp2_with fail
              go_roundw
              case rel => exact ⟨i + 1, _, d, by omega, by omega, by simp, rfl, hdn, by omega, HD9, HB9⟩
              simp [RowKit.intOf]
              omega
        · by_cases hlt : i < len1
          · obtain rfl : i = 50 := by omega
            go_wp2_with fail
            go_ret
            exact ⟨rfl, HB.out⟩
          · obtain rfl : i = len1 := by omega
            go_wp2_with fail
            go_ret
            exact ⟨rfl, HB.out⟩

set_option maxRecDepth 100000 in
theorem lifted (os : Os) (started : os.Started) (H : Type) (enc : TypeId × Value → H) :
    ReturnsInHanded {} Try.checked os 3 .any (Rows.devAllSpec.pre6 enc Try.prog Try.f3 Rows.devAllRow.domain false) (Rows.devAllSpec.post enc Try.prog Try.f3 false true false false) := by
  refine returnsInHanded_of_change (C := Try.checked) own started (by kernel_rfl) Try.func3
    (ChangeSpec.witness6 (enc := enc) (C := Try.checked) false ⟨#[], #[.int .i64 0, .slice none 0 0], []⟩ 8 (by kernel_rfl) (by kernel_rfl) (by kernel_rfl) (by kernel_rfl)) ?_
  intro W base args ds gs before hval0 hW hcnd _
  have hval : ∀ (j : Nat) t v, Try.f3.params[j]? = some t → args[j]? = some v → Value.okWide Try.prog W .any base t v := hval0
  have hW' := hW
  obtain ⟨p, q, hA0, hV, rfl, hfz, hnd⟩ := hW
  have hA : DataW.TrodAll enc Try.prog W 0 (fun _ => true) true Try.f3.params.toList args.toList ds p := hA0
  rw [Try.params3] at hA hval
  obtain ⟨v0, vs0, d0, ds0, p0, q0, hargs, rfl, rfl, h0, r0⟩ := trodAll_cons hA
  obtain ⟨v1, vs1, d1, ds1, p1, q1, rfl, rfl, rfl, h1, r1⟩ := trodAll_cons r0
  obtain ⟨rfl, rfl, rfl⟩ := trodAll_nil r1
  obtain rfl : args = #[v0, v1] := by cases args; simp_all
  obtain ⟨rfl, rfl⟩ := trodVars_none hV
  obtain ⟨a0, rfl, rfl, rfl, w0⟩ := open_int Try.underlying3 (hval 0 3 v0 rfl rfl) h0
  obtain ⟨a1, len1, cap1, rfl⟩ := okWide_slice Try.underlying22 (hval 1 22 v1 rfl rfl)
  have k1 := h1
  have lt1 : ∀ x ∈ p1, x.block < W.heap.size := by obtain ⟨m, hm⟩ := k1; exact DataW.trod_lt m _ _ _ hm
  obtain ⟨z1, w1⟩ : ∃ zs, Ops W (.slice a1 len1 cap1) zs := by
    obtain ⟨fuel, hf⟩ := h1
    obtain ⟨a, len, cap, zs, hcs, hz⟩ := open_Op hf
    simp [Value.cells] at hcs
    obtain ⟨rfl, rfl, rfl⟩ := hcs
    exact ⟨zs, hz⟩
  clear hA0 hval0
  refine (walk a0 a1 len1 cap1 z1 W w0 w1).mono fun e W' ⟨he, bel⟩ => ?_
  subst he
  exact ⟨_, rfl, _, _, _, [], _, [], hW', trodAll_mk1 (shut_bool Try.underlying4 _), (trodAll_cons_mk (shut_int Try.underlying3 w0) (trodAll_cons_mk (Below.trod laidOut (by kernel_rfl) (of_decide_eq_true (by kernel_rfl)) k1 bel lt1) trodAll_mk0)), rfl, bel.frame _, fun h => by cases h⟩

theorem over : Rows.devAllRow.holds Try.pinned (OpenSpec.ofChange Rows.devAllSpec) :=
  OpenClaim.holds_of_wide 3 Try.f3 rfl rfl rfl rfl rfl rfl rfl ⟨rfl, rfl, rfl, rfl, rfl⟩ rfl rfl rfl rfl rfl (by kernel_rfl) Try.func3 (by kernel_rfl)
    (of_decide_eq_true (by kernel_rfl)) (by unfold Func.isWrapper; first | (rw [if_pos (by decide +kernel)]; kernel_rfl) | (rw [if_neg (by decide +kernel)]; exact ⟨rfl, rfl⟩))
    (fun os started H enc _ => lifted os started H enc)

theorem proved : Rows.DevAllSaid := over
#print axioms proved
end Go.Proofs.Ytjgdbialapdggaa.devAll
