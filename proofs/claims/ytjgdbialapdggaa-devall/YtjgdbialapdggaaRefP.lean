/-
  The device and the law's own device side by side, and what each call does to the two.
-/
import Derived.Test.YtjgdbialapdggaaRefB
import Derived.Test.YtjgdbialapdggaaRefS
import Derived.Test.YtjgdbialapdggaaRefF
import Derived.Test.YtjgdbialapdggaaRefC
import Derived.Test.YtjgdbialapdggaaDevC
import Derived.Test.YtjgdbialapdggaaDevF
namespace Go.Proofs.Ytjgdbialapdggaa
open Go.RowKit Go.Maps

/-- The blocks of both. -/
def FF (g bl bm q bn bs bo b : Nat) : Prop := b = g ∨ b = bl ∨ b = bm ∨ b = q ∨ b = bn ∨ b = bs ∨ b = bo

/-- The device is d, the law's own is r; each block of theirs, and each that is new, is one of G. -/
def Duo (G : Nat → Prop) (w : World) (g q : Nat) (d r : Dv) : Prop :=
  ∃ bl bm bn bs bo, DevAt w g bl bm d ∧ RefAt w q bn bs bo (FF g bl bm q bn bs bo) r ∧ (∀ b, FF g bl bm q bn bs bo b → G b) ∧ ∀ b, w.heap.size ≤ b → G b

theorem two_apart {w : World} {g bl bm q bn bs bo : Nat} {F : Nat → Prop} {d : Dv} {n : Nat} {nw sf : Nat → List Int} {lo : Nat → Bool} {calls : Nat} {fu : Int} (hd : DevAt w g bl bm d) (hr : RefIn w q bn bs bo F n nw sf lo calls fu) :
    (g ≠ q ∧ g ≠ bn ∧ g ≠ bs ∧ g ≠ bo) ∧ (bl ≠ q ∧ bl ≠ bn ∧ bl ≠ bs ∧ bl ≠ bo) ∧ (bm ≠ q ∧ bm ≠ bn ∧ bm ≠ bs ∧ bm ≠ bo) := by
  obtain ⟨_, _, _, _, _, h⟩ := hd
  obtain ⟨es, clock, hb, _⟩ := h.map
  obtain ⟨_, _, _, hq, -⟩ := hr.me
  obtain ⟨c2, hN⟩ := hr.bN
  obtain ⟨c3, hS⟩ := hr.bS
  obtain ⟨c4, hO⟩ := hr.bO
  have hg := h.me
  have hl := h.row
  refine ⟨⟨?_, ?_, ?_, ?_⟩, ⟨?_, ?_, ?_, ?_⟩, ⟨?_, ?_, ?_, ?_⟩⟩ <;> intro e <;> subst e <;> simp_all

section
variable {G : Nat → Prop} {w w' : World} {g q : Nat} {d r : Dv}

theorem Duo.ok (h : Duo G w g q d r) : d.Ok := by
  obtain ⟨_, _, _, _, _, h, _⟩ := h
  exact h.ok

theorem Duo.later (h : Duo G w g q d r) (hb : Below w.heap.size w w') : Duo G w' g q d r := by
  obtain ⟨bl, bm, bn, bs, bo, h1, h2, h3, h4⟩ := h
  exact ⟨bl, bm, bn, bs, bo, h1.later hb, RefIn.later h2 hb, h3, fun b h => h4 b (Nat.le_trans hb.size h)⟩

theorem Duo.mono {G' : Nat → Prop} (h : Duo G w g q d r) (hG : ∀ b, G b → G' b) : Duo G' w g q d r := by
  obtain ⟨bl, bm, bn, bs, bo, h1, h2, h3, h4⟩ := h
  exact ⟨bl, bm, bn, bs, bo, h1, h2, fun b e => hG b (h3 b e), fun b e => hG b (h4 b e)⟩

/-- Beside a new block. -/
theorem Duo.fresh (h : Duo G w g q d r) (hb : Below w.heap.size w w') (hs : w.heap.size < w'.heap.size) : Duo (fun b => G b ∧ b ≠ w.heap.size) w' g q d r := by
  obtain ⟨bl, bm, bn, bs, bo, h1, h2, h3, h4⟩ := h
  have l1 := h1.lts
  have l2 := RefIn.lts h2
  exact ⟨bl, bm, bn, bs, bo, h1.later hb, RefIn.later h2 hb, fun b e => ⟨h3 b e, by unfold FF at e; omega⟩, fun b e => ⟨h4 b (by omega), by omega⟩⟩

theorem Duo.dead (h : Duo G w g q d r) : Calls Try.prog 12 #[.pointer (some ⟨q, 0, none⟩)] w fun e w' => e = .returned (.bool r.dead) ∧ w' = w := by
  obtain ⟨bl, bm, bn, bs, bo, h1, h2, h3, h4⟩ := h
  refine (rdead_any h2).mono ?_
  rintro e w' ⟨rfl, rfl⟩
  exact ⟨by rw [dead_fz], rfl⟩

theorem Duo.write (h : Duo G w g q d r) (hd : d.dead = false) (hc : d.calls < 999999) {i : Nat} (hi : i < d.n) {v : Value} {zs : List Int} (hv : Sl w v zs) (hl : zs.length ≤ 64) :
    Calls Try.prog 13 #[.pointer (some ⟨g, 0, none⟩), .int .i64 (i : Int), v] w fun e w' => e = .returned (.int .i64 0) ∧ Duo G w' g q (d.write i zs) r ∧ But G w w' := by
  obtain ⟨bl, bm, bn, bs, bo, h1, h2, h3, h4⟩ := h
  have ap := two_apart h1 h2
  refine (write_any h1 hd hc hi hv hl).mono ?_
  rintro e w' ⟨rfl, k1, k2⟩
  refine ⟨rfl, ⟨bl, bm, bn, bs, bo, k1, RefIn.but h2 k2 (by omega) (by omega) (by omega) (by omega) (fun b e => ?_), h3, fun b h => h4 b (Nat.le_trans k2.size h)⟩, k2.mono fun b _ e => h3 b ?_⟩
  · unfold FF; omega
  · unfold FF; omega

theorem Duo.writeDead (h : Duo G w g q d r) (hd : d.dead = true) (z : Int) (v : Value) :
    Calls Try.prog 13 #[.pointer (some ⟨g, 0, none⟩), .int .i64 z, v] w fun e w' => e = .returned (.int .i64 5) ∧ w' = w := by
  obtain ⟨bl, bm, bn, bs, bo, h1, h2, h3, h4⟩ := h
  exact write_dead h1 hd z v

theorem Duo.writeOut (h : Duo G w g q d r) (hd : d.dead = false) {z : Int} (hz : ¬ (0 ≤ z ∧ z < (d.n : Int))) (v : Value) :
    Calls Try.prog 13 #[.pointer (some ⟨g, 0, none⟩), .int .i64 z, v] w fun e w' => e = .returned (.int .i64 3) ∧ w' = w := by
  obtain ⟨bl, bm, bn, bs, bo, h1, h2, h3, h4⟩ := h
  exact write_out h1 hd hz v

theorem Duo.writeLong (h : Duo G w g q d r) (hd : d.dead = false) {i : Nat} (hi : i < d.n) {v : Value} {zs : List Int} (hv : Sl w v zs) (hl : 64 < zs.length) :
    Calls Try.prog 13 #[.pointer (some ⟨g, 0, none⟩), .int .i64 (i : Int), v] w fun e w' => e = .returned (.int .i64 1) ∧ w' = w := by
  obtain ⟨bl, bm, bn, bs, bo, h1, h2, h3, h4⟩ := h
  exact write_long h1 hd hi hv hl

theorem fz_lo (o : Option Nat) : -1 ≤ fz o := by cases o <;> simp [fz]

theorem fz_hi {d : Dv} (h : d.Ok) : fz d.fuse ≤ 9223372036854775807 := by
  cases e : d.fuse with
  | none => simp [fz]
  | some k => have := h.fu k e; simp [fz]; omega

theorem fz_dn {d : Dv} (h : d.dead = false) : dn (fz d.fuse) = fz (d.fuse.map (· - 1)) := by
  cases e : d.fuse with
  | none => simp [fz, dn]
  | some k =>
    have hk : k ≠ 0 := by rintro rfl; simp [Dv.dead, e] at h
    show (if 0 < (k : Int) then (k : Int) - 1 else (k : Int)) = ((k - 1 : Nat) : Int)
    rw [if_pos (by omega)]
    omega

theorem Duo.writes (h : Duo G w g q d r) (ho : r.Ok) (hd : r.dead = false) (hc : r.calls < 999999) {i : Nat} (hi : i < r.n) {v : Value} {zs : List Int} (hv : Sl w v zs) (hl : zs.length ≤ 64) :
    Calls Try.prog 14 #[.pointer (some ⟨q, 0, none⟩), .int .i64 (i : Int), v] w fun e w' => e = .returned (.tuple #[]) ∧ Duo G w' g q d (r.write i zs) ∧ But G w w' := by
  obtain ⟨bl, bm, bn, bs, bo, h1, h2, h3, h4⟩ := h
  have ap := two_apart h1 h2
  have lt := h1.lts
  have lt2 := RefIn.lts h2
  refine (writes_any h2 hc (fz_lo _) (fz_hi ho) hi hv hl (fun b hb e => ?_)).mono ?_
  · unfold FF at e; omega
  rintro e w' ⟨rfl, k1, k2⟩
  refine ⟨rfl, ⟨bl, bm, bn, bs, bo, h1.but k2 (by omega) (by omega) (by omega), ?_, h3, fun b h => h4 b (Nat.le_trans k2.size h)⟩, k2.mono fun b _ e => h3 b ?_⟩
  · rw [fz_dn hd] at k1
    refine k1.congr (fun j _ => ?_) (fun j _ => rfl) (fun j _ => ?_)
    · by_cases e : j = i
      · subst e; simp [Dv.write, Dv.lay, Dv.next, Dv.at_]
      · simp [Dv.write, Dv.lay, Dv.next, Dv.at_, e]
    · by_cases e : j = i
      · subst e; simp [Dv.write, Dv.lay, Dv.next]
      · simp [Dv.write, Dv.lay, Dv.next, e]
  · unfold FF; omega

theorem Duo.flushes (h : Duo G w g q d r) (ho : r.Ok) (hd : r.dead = false) (hc : r.calls < 999999) :
    Calls Try.prog 15 #[.pointer (some ⟨q, 0, none⟩)] w fun e w' => e = .returned (.tuple #[]) ∧ Duo G w' g q d r.flush ∧ But G w w' := by
  obtain ⟨bl, bm, bn, bs, bo, h1, h2, h3, h4⟩ := h
  have ap := two_apart h1 h2
  refine (flushes_any h2 hc (fz_lo _) (fz_hi ho)).mono ?_
  rintro e w' ⟨rfl, k1, k2⟩
  refine ⟨rfl, ⟨bl, bm, bn, bs, bo, h1.but k2 (by omega) (by omega) (by omega), ?_, h3, fun b h => h4 b (Nat.le_trans k2.size h)⟩, k2.mono fun b _ e => h3 b ?_⟩
  · rw [fz_dn hd] at k1
    exact k1
  · unfold FF; omega

theorem Duo.flush (h : Duo G w g q d r) (hd : d.dead = false) (hc : d.calls < 999999) :
    Calls Try.prog 16 #[.pointer (some ⟨g, 0, none⟩)] w fun e w' => e = .returned (.int .i64 0) ∧ Duo G w' g q d.flush r ∧ But G w w' := by
  obtain ⟨bl, bm, bn, bs, bo, h1, h2, h3, h4⟩ := h
  have ap := two_apart h1 h2
  have lt := h1.lts
  refine (flush_any h1 hd hc).mono ?_
  rintro e w' ⟨rfl, bm', k1, k3, k2⟩
  refine ⟨rfl, ⟨bl, bm', bn, bs, bo, k1, RefIn.but (RefIn.turn h2 (F' := FF g bl bm' q bn bs bo) (fun b hb e => ?_) (by unfold FF; omega)) k2 (by omega) (by omega) (by omega) (by omega) (fun b e => ?_), fun b e => if hb : w.heap.size ≤ b then h4 b hb else h3 b (by unfold FF at e ⊢; omega), fun b h => h4 b (Nat.le_trans k2.size h)⟩, k2.mono fun b _ e => h3 b ?_⟩
  · unfold FF at e ⊢; omega
  · unfold FF; omega
  · unfold FF; omega

theorem Duo.flushDead (h : Duo G w g q d r) (hd : d.dead = true) :
    Calls Try.prog 16 #[.pointer (some ⟨g, 0, none⟩)] w fun e w' => e = .returned (.int .i64 5) ∧ w' = w := by
  obtain ⟨bl, bm, bn, bs, bo, h1, h2, h3, h4⟩ := h
  exact flush_dead h1 hd

theorem Duo.crash (h : Duo G w g q d r) {v : Value} {ks : List Bool} (hv : Rw w v (bo ks)) :
    Calls Try.prog 17 #[.pointer (some ⟨g, 0, none⟩), v] w fun e w' => ∃ g', e = .returned (.pointer (some ⟨g', 0, none⟩)) ∧ Duo G w' g' q (d.crash ks) r ∧ But G w w' := by
  obtain ⟨bl, bm, bn, bs, bo', h1, h2, h3, h4⟩ := h
  have lt := h1.lts
  refine (crash_any h1 hv).mono ?_
  rintro e w' ⟨g', bl', bm', rfl, k1, k3, k4, k5, k2⟩
  refine ⟨g', rfl, ⟨bl', bm', bn, bs, bo', k1, RefIn.later (RefIn.turn h2 (F' := FF g' bl' bm' q bn bs bo') (fun b hb e => ?_) (by unfold FF; omega)) k2, fun b e => if hb : w.heap.size ≤ b then h4 b hb else h3 b (by unfold FF at e ⊢; omega), fun b h => h4 b (Nat.le_trans k2.size h)⟩, But.of k2⟩
  unfold FF at e ⊢; omega

theorem Duo.crashes (h : Duo G w g q d r) {v : Value} {ks : List Bool} (hv : Rw w v (bo ks)) (hF : 0 < ks.length → ∀ p n cp, v = .slice (some p) n cp → ¬ G p.block) :
    Calls Try.prog 18 #[.pointer (some ⟨q, 0, none⟩), v] w fun e w' => e = .returned (.tuple #[]) ∧ Duo G w' g q d (r.crash ks) ∧ But G w w' := by
  obtain ⟨bl, bm, bn, bs, bo', h1, h2, h3, h4⟩ := h
  have ap := two_apart h1 h2
  refine (crashes_any h2 hv (fun hp b hb p n cp e => ?_)).mono ?_
  · rintro rfl; exact hF hp p n cp e (h3 _ hb)
  rintro e w' ⟨rfl, k1, k2⟩
  refine ⟨rfl, ⟨bl, bm, bn, bs, bo', h1.but k2 (by omega) (by omega) (by omega), k1, h3, fun b h => h4 b (Nat.le_trans k2.size h)⟩, k2.mono fun b _ e => h3 b ?_⟩
  unfold FF; omega

theorem Duo.fuse (h : Duo G w g q d r) (z : Int) (hz : z ≤ 9223372036854775807) :
    Calls Try.prog 19 #[.pointer (some ⟨g, 0, none⟩), .int .i64 z] w fun e w' => e = .returned (.tuple #[]) ∧ Duo G w' g q (d.fused z) r ∧ But G w w' := by
  obtain ⟨bl, bm, bn, bs, bo, h1, h2, h3, h4⟩ := h
  have ap := two_apart h1 h2
  refine (fuse_any h1 z hz).mono ?_
  rintro e w' ⟨rfl, k1, k2⟩
  refine ⟨rfl, ⟨bl, bm, bn, bs, bo, k1, RefIn.but h2 k2 (by omega) (by omega) (by omega) (by omega) (fun b e => ?_), h3, fun b h => h4 b (Nat.le_trans k2.size h)⟩, k2.mono fun b _ e => h3 b ?_⟩
  · unfold FF; omega
  · unfold FF; omega

/-- 'w.fuse = max(-1, z)'. -/
theorem Duo.setFuse (h : Duo G w g q d r) (hd : r.dead = false) (z : Int) : Duo G (w.setCell ⟨q, 4, none⟩ (.int .i64 (max (-1) z))) g q d (r.fused z) ∧ But G w (w.setCell ⟨q, 4, none⟩ (.int .i64 (max (-1) z))) := by
  obtain ⟨bl, bm, bn, bs, bo, h1, h2, h3, h4⟩ := h
  have ap := two_apart h1 h2
  have k2 := But.one w q 4 (.int .i64 (max (-1) z))
  refine ⟨⟨bl, bm, bn, bs, bo, h1.but k2 (by omega) (by omega) (by omega), ?_, h3, fun b h => h4 b (Nat.le_trans k2.size h)⟩, k2.mono fun b _ e => h3 b (by unfold FF; omega)⟩
  have k1 := RefIn.setFuse h2 (max (-1) z)
  have e : max (-1) z = fz (r.fused z).fuse := by
    simp only [Dv.fused, hd]
    by_cases hz : 0 ≤ z
    · simp [hz, fz]; omega
    · simp [hz, fz]; omega
  rw [e] at k1 ⊢
  have e2 : r.fused z = { r with fuse := (r.fused z).fuse } := by simp [Dv.fused, hd]
  rw [e2]
  exact k1

theorem Duo.cells (h : Duo G w g q d r) : (∃ x, w.cell? ⟨q, 4, none⟩ = some (.int .i64 x)) ∧ w.frozen? ⟨q, 4, none⟩ = false := by
  obtain ⟨bl, bm, bn, bs, bo, h1, h2, h3, h4⟩ := h
  obtain ⟨_, _, _, -, -, -, -, e, -⟩ := RefIn.cells h2
  exact ⟨⟨_, e⟩, (RefIn.free h2 4).1⟩

theorem Duo.same (h : Duo G w g q d d) :
    Calls Try.prog 20 #[.pointer (some ⟨g, 0, none⟩), .pointer (some ⟨q, 0, none⟩)] w fun e w' => e = .returned (.bool true) ∧ Duo G w' g q d d ∧ Below w.heap.size w w' := by
  have h' := h
  obtain ⟨bl, bm, bn, bs, bo, h1, h2, h3, h4⟩ := h
  refine (same_any h1 h2).mono ?_
  rintro e w' ⟨rfl, k⟩
  exact ⟨rfl, h'.later k, k⟩

end

/-- What has been built is the law's device behind New. -/
theorem Bd.duo {L B : Nat} {w : World} {q n : Nat} {vn vs vo : Value} {ln ls : List Value} (h : Bd B w q n vn vs vo ln ls) (hn : 1 ≤ n) (hn8 : n ≤ 8) {g bl bm : Nat} (hd : DevAt w g bl bm (Dv.new n)) (hL : L ≤ g ∧ L ≤ bl ∧ L ≤ bm ∧ L ≤ q) : Duo (L ≤ ·) w g q (Dv.new n) (Dv.new n) := by
  obtain ⟨m, rfl⟩ : ∃ m, n = m + 1 := ⟨n - 1, by omega⟩
  obtain ⟨bn, cn, rfl⟩ := own_shape h.nn
  obtain ⟨bs, cs, rfl⟩ := own_shape h.ss
  obtain ⟨bo', co, rfl⟩ := own_shape h.oo
  have ln1 := (h.nn.lt bn rfl).1
  have ls1 := (h.ss.lt bs rfl).1
  have lo1 := (h.oo.lt bo' rfl).1
  have hq := h.qB
  obtain ⟨tn, hN⟩ := own_type h.nn (b := bn) rfl
  obtain ⟨ts, hS⟩ := own_type h.ss (b := bs) rfl
  obtain ⟨to_, hO⟩ := own_type h.oo (b := bo') rfl
  have rm : ∀ {e : TypeId} {b c : Nat} {l : List Value}, w.ownsRow B e 1 (.slice (some ⟨b, 0, none⟩) (m + 1) c) (m + 1) l → m + 1 ≤ c ∧ c ≤ maxLen := fun ho => by
    rcases ho.2 with ⟨e, -⟩ | ⟨_, _, _, e, -, -, h1, h2, -⟩
    · cases e
    · cases e; exact ⟨h1, h2⟩
  have sx : ∀ v, Nw w v → Sx w (FF g bl bm q bn bs bo') v nought := fun v hv => by
    obtain ⟨b, cap, rfl, c1, c2, c3, c, c4⟩ := hv
    refine ⟨b, cap, rfl, c1, c2, sec_nought, c3, ?_⟩
    obtain ⟨_, _, _, _, _, hd⟩ := hd
    obtain ⟨es, clock, hb, _⟩ := hd.map
    have hg := hd.me
    have hl := hd.row
    have hme := h.me
    rintro (e | e | e | e | e | e | e) <;> subst e <;> simp_all
  refine ⟨bl, bm, bn, bs, bo', hd, ?_, fun b e => by unfold FF at e; omega, fun b e => by have := blk_lt h.me; omega⟩
  refine ⟨⟨cn, cs, co, h.me, (rm h.nn).1, (rm h.ss).1, (rm h.oo).1, (rm h.nn).2, (rm h.ss).2, (rm h.oo).2⟩, ⟨tn, hN⟩, ⟨ts, hS⟩, ⟨to_, hO⟩, fun i hi => ?_, fun i hi => ?_, fun i hi => ?_, fun e => h.ap bn rfl (by rw [e]; rfl), ⟨by unfold FF; omega, by unfold FF; omega, by unfold FF; omega, by unfold FF; omega⟩, hn8, by simp [Dv.new]⟩
  · have hi' : i < m + 1 := hi
    have hl := h.nn.1
    exact ⟨ln[i]'(by omega), by rw [h.nn.cellAt i (by omega), List.getElem?_eq_getElem (by omega)], sx _ (h.nN _ (List.getElem_mem _))⟩
  · have hi' : i < m + 1 := hi
    have hl := h.ss.1
    exact ⟨ls[i]'(by omega), by rw [h.ss.cellAt i (by omega), List.getElem?_eq_getElem (by omega)], sx _ (h.nS _ (List.getElem_mem _))⟩
  · have hi' : i < m + 1 := hi
    rw [h.oo.cellAt i (by omega)]
    simp [hi', Dv.new]

end Go.Proofs.Ytjgdbialapdggaa
