/-
  What two sectors hold, as mathematics, and the contracts of package super in these words.
-/
import Derived.Test.YtiaicpdbobgkoaaDoorSupS
namespace Go.Proofs.YtiaicpdbobgkoaaDoor
open Go.RowKit Go.Maps
set_option linter.unusedVariables false

/-- The sectors at and at + 1 hold the text zs, its turn t, the one that is newer at at + now. -/
structure Hold (d : Dv) (at_ now t : Nat) (zs : List Int) : Prop where
  room : at_ + 1 < d.n
  side : now ≤ 1
  fits : Sp.Fits t zs
  here : d.at_ (at_ + now) = Sp.pk t zs
  there : ∃ t' zs', Sp.Fits t' zs' ∧ d.at_ (at_ + 1 - now) = Sp.pk t' zs' ∧ (t' < t ∨ t' = t ∧ now = 0)

/-- Nothing is loose. -/
def Still (d : Dv) : Prop := ∀ i, d.loose i = none

theorem Still.at_ {d : Dv} (h : Still d) (i : Nat) : d.at_ i = d.last i := by simp [Dv.at_, h i]
theorem Still.los {d : Dv} (h : Still d) : d.los = [] := by simp [Dv.los, h _]
theorem crash_at (d : Dv) (ks : List Bool) (i : Nat) : (d.crash ks).at_ i = d.kept ks i := by simp [Dv.at_, Dv.crash]
theorem Still.crash {d : Dv} (h : Still d) (ks : List Bool) (i : Nat) : (d.crash ks).at_ i = d.at_ i := by
  rw [crash_at, Dv.kept]
  split
  · rfl
  · rw [h.at_ i]
theorem crash_still (d : Dv) (ks : List Bool) : Still (d.crash ks) := fun _ => rfl
theorem new_still (n : Nat) : Still (Dv.new n) := fun _ => rfl
theorem crash_last (d : Dv) (i : Nat) : (d.crash []).at_ i = d.last i := by rw [crash_at]; simp [Dv.kept]

theorem Hold.of {d d' : Dv} {at_ now t : Nat} {zs : List Int} (h : Hold d at_ now t zs) (hn : d'.n = d.n) (h0 : d'.at_ at_ = d.at_ at_) (h1 : d'.at_ (at_ + 1) = d.at_ (at_ + 1)) : Hold d' at_ now t zs := by
  have hs := h.side
  have ha : d'.at_ (at_ + now) = d.at_ (at_ + now) := by
    have : now = 0 ∨ now = 1 := by omega
    rcases this with rfl | rfl
    · exact h0
    · exact h1
  have hb : d'.at_ (at_ + 1 - now) = d.at_ (at_ + 1 - now) := by
    have : now = 0 ∨ now = 1 := by omega
    rcases this with rfl | rfl
    · exact h1
    · exact h0
  exact ⟨by rw [hn]; exact h.room, h.side, h.fits, by rw [ha]; exact h.here, by rw [hb]; exact h.there⟩

theorem Hold.crash {d : Dv} {at_ now t : Nat} {zs : List Int} (h : Hold d at_ now t zs) (hs : Still d) (ks : List Bool) : Hold (d.crash ks) at_ now t zs := h.of rfl (hs.crash ks _) (hs.crash ks _)

/-- A sector written. -/
theorem write_at {d : Dv} (ok : d.Ok) {i t : Nat} {zs : List Int} (hi : i < d.n) (hf : Sp.Fits t zs) (j : Nat) : (d.write i (Sp.pk t zs)).at_ j = if j = i then Sp.pk t zs else d.at_ j := by
  simp only [Dv.write, Dv.next, Dv.lay, Dv.at_]
  by_cases h : j = i
  · simp only [h, if_true, Option.getD_some]
    exact Sp.over_pk hf (ok.at_ hi)
  · simp only [h, if_false]
theorem flush_at (d : Dv) (j : Nat) : d.flush.at_ j = d.at_ j := by simp [Dv.flush, Dv.next, Dv.at_]
theorem flush_still (d : Dv) : Still d.flush := fun _ => rfl

/-- A Save on a device without a fuse. -/
def sv1 (d : Dv) (at_ now t : Nat) (zs : List Int) : Dv := (d.write (at_ + 1 - now) (Sp.pk (t + 1) zs)).flush
theorem sv_free {d : Dv} (hd : d.fuse = none) (at_ now t : Nat) (zs : List Int) : sv d at_ now t zs = (true, sv1 d at_ now t zs) := by
  simp [sv, layF, Dv.dead, Dv.write, Dv.next, Dv.lay, hd, sv1]
theorem sv1_at {d : Dv} (ok : d.Ok) {at_ now t : Nat} {zs : List Int} (ha : at_ + 1 < d.n) (hf : Sp.Fits (t + 1) zs) (j : Nat) : (sv1 d at_ now t zs).at_ j = if j = at_ + 1 - now then Sp.pk (t + 1) zs else d.at_ j := by
  rw [sv1, flush_at, write_at ok (by omega) hf]
theorem sv1_still (d : Dv) (at_ now t : Nat) (zs : List Int) : Still (sv1 d at_ now t zs) := flush_still _
theorem sv1_fuse {d : Dv} (hd : d.fuse = none) (at_ now t : Nat) (zs : List Int) : (sv1 d at_ now t zs).fuse = none := by simp [sv1, Dv.flush, Dv.write, Dv.next, Dv.lay, hd]
theorem sv1_calls (d : Dv) (at_ now t : Nat) (zs : List Int) : (sv1 d at_ now t zs).calls = d.calls + 2 := by simp [sv1, Dv.flush, Dv.write, Dv.next, Dv.lay]
theorem sv1_n (d : Dv) (at_ now t : Nat) (zs : List Int) : (sv1 d at_ now t zs).n = d.n := rfl

theorem Hold.save {d : Dv} {at_ now t : Nat} {zs0 zs : List Int} (h : Hold d at_ now t zs0) (ok : d.Ok) (hf : Sp.Fits (t + 1) zs) : Hold (sv1 d at_ now t zs) at_ (1 - now) (t + 1) zs := by
  have hs := h.side
  have hr := h.room
  refine ⟨h.room, by omega, hf, ?_, t, zs0, h.fits, ?_, .inl (by omega)⟩
  · rw [sv1_at ok hr hf, if_pos (by omega)]
  · rw [sv1_at ok hr hf, if_neg (by omega), ← h.here]
    congr 1
    omega

theorem mk2_at {d : Dv} (ok : d.Ok) (hc : d.calls < 900000) {at_ : Nat} {zs : List Int} (ha : at_ + 1 < d.n) (hf : Sp.Fits 1 zs) (j : Nat) : (mk2 d at_ zs).at_ j = if j = at_ ∨ j = at_ + 1 then Sp.pk 1 zs else d.at_ j := by
  have ok1 := Dv.write_ok ok (by omega) (i := at_) (by omega) (zs := Sp.pk 1 zs) (by rw [(Sp.pk_sec hf).1]; omega) (Sp.pk_sec hf).2
  rw [mk2, flush_at, write_at ok1 (by exact ha) hf, write_at ok (by omega) hf]
  by_cases h1 : j = at_ + 1
  · simp [h1]
  · by_cases h0 : j = at_ <;> simp [h0, h1]
theorem mk2_still (d : Dv) (at_ : Nat) (zs : List Int) : Still (mk2 d at_ zs) := flush_still _
theorem mk2_fuse {d : Dv} (hd : d.fuse = none) (at_ : Nat) (zs : List Int) : (mk2 d at_ zs).fuse = none := by simp [mk2, Dv.flush, Dv.write, Dv.next, Dv.lay, hd]
theorem mk2_calls (d : Dv) (at_ : Nat) (zs : List Int) : (mk2 d at_ zs).calls = d.calls + 3 := by simp [mk2, Dv.flush, Dv.write, Dv.next, Dv.lay]
theorem mk2_n (d : Dv) (at_ : Nat) (zs : List Int) : (mk2 d at_ zs).n = d.n := rfl
theorem mk2_hold {d : Dv} (ok : d.Ok) (hc : d.calls < 900000) {at_ : Nat} {zs : List Int} (ha : at_ + 1 < d.n) (hf : Sp.Fits 1 zs) : Hold (mk2 d at_ zs) at_ 0 1 zs :=
  ⟨ha, by omega, hf, by rw [mk2_at ok hc ha hf, if_pos (by omega)], 1, zs, hf, by rw [mk2_at ok hc ha hf, if_pos (by omega)], .inr ⟨rfl, rfl⟩⟩

/-- A device of the law's own, none of its blocks below B. -/
structure Dn (B : Nat) (w W : World) (g bl bm : Nat) (d : Dv) : Prop where
  dev : DevAt W g bl bm d
  bel : Below B w W
  big : B ≤ W.heap.size
  tab : Tab W
  pos : 0 < B
  lo : B ≤ g ∧ B ≤ bl ∧ B ≤ bm

theorem Dn.later {B : Nat} {w W W' : World} {g bl bm : Nat} {d : Dv} (h : Dn B w W g bl bm d) (hb : Below W.heap.size W W') : Dn B w W' g bl bm d :=
  ⟨h.dev.later hb, h.bel.trans (hb.mono h.big), Nat.le_trans h.big hb.size, h.tab.later hb, h.pos, h.lo⟩

theorem Dn.ok {B : Nat} {w W : World} {g bl bm : Nat} {d : Dv} (h : Dn B w W g bl bm d) : d.Ok := h.dev.ok

theorem Dn.drew {B : Nat} {w W : World} {g bl bm : Nat} {d : Dv} (h : Dn B w W g bl bm d) : Dn B w W.drew g bl bm d := h.later (Below.refl _ _).drew

theorem new_dn {B : Nat} {w W : World} (hb : Below B w W) (hB : B ≤ W.heap.size) (ht : Tab W) (hp : 0 < B) {z : Int} (n : Nat) (hz : z = (n : Int)) (h1 : 1 ≤ n) (h2 : n ≤ 2048) :
    Calls Tryd.prog 8 #[.int .i64 z] W fun e W' => ∃ g bl bm, e = .returned (.pointer (some ⟨g, 0, none⟩)) ∧ Dn B w W' g bl bm (Dv.new n) ∧ (W.heap.size ≤ g ∧ W.heap.size ≤ bl ∧ W.heap.size ≤ bm) ∧ Below W.heap.size W W' := by
  subst hz
  refine (new_any W n h1 h2).mono ?_
  rintro e W' ⟨g, bl, bm, rfl, hd, l1, l2, l3, hb'⟩
  exact ⟨g, bl, bm, rfl, ⟨hd, hb.trans (hb'.mono hB), Nat.le_trans hB hb'.size, ht.later hb', hp, by omega⟩, ⟨l1, l2, l3⟩, hb'⟩

theorem crash_dn {B : Nat} {w W : World} {g bl bm : Nat} {d : Dv} (h : Dn B w W g bl bm d) {v : Value} {ks : List Bool} (hv : Rw W v (bo ks)) :
    Calls Tryd.prog 13 #[.pointer (some ⟨g, 0, none⟩), v] W fun e W' => ∃ g' bl' bm', e = .returned (.pointer (some ⟨g', 0, none⟩)) ∧ Dn B w W' g' bl' bm' (d.crash ks) ∧ (W.heap.size ≤ g' ∧ W.heap.size ≤ bl' ∧ W.heap.size ≤ bm') ∧ Below W.heap.size W W' := by
  refine (crash_any h.dev hv).mono ?_
  rintro e W' ⟨g', bl', bm', rfl, hd, l1, l2, l3, hb'⟩
  have hB := h.big
  exact ⟨g', bl', bm', rfl, ⟨hd, h.bel.trans (hb'.mono hB), Nat.le_trans hB hb'.size, h.tab.later hb', h.pos, by omega⟩, ⟨l1, l2, l3⟩, hb'⟩

theorem make_dn {B : Nat} {w W : World} {g bl bm : Nat} {d : Dv} (h : Dn B w W g bl bm d) (hd : d.fuse = none) (hc : d.calls < 900000) {z : Int} (at_ : Nat) (hz : z = (at_ : Int)) (ha : at_ + 1 < d.n) {v : Value} {zs : List Int} (hv : Sl W v zs) (hl : zs.length ≤ 40) :
    Calls Tryd.prog 9 #[.pointer (some ⟨g, 0, none⟩), .int .i64 z, v] W fun e W' => ∃ sb bm', e = .returned (.tuple #[.pointer (some ⟨sb, 0, none⟩), .int .i64 0]) ∧
      Su W' sb g at_ 0 1 zs ∧ Dn B w W' g bl bm' (mk2 d at_ zs) ∧ W.heap.size ≤ sb ∧ But (Dvs g bl bm) W W' := by
  subst hz
  refine (make_any h.dev h.tab hd hc ha hv hl).mono ?_
  rintro e W' ⟨sb, bm', rfl, hs, hd', hm, hsb, hb⟩
  have hlo := h.lo
  have hB := h.big
  have hp := h.pos
  exact ⟨sb, bm', rfl, hs, ⟨hd', Below.but h.bel hB hb (fun k e => by unfold Dvs at e; omega), Nat.le_trans hB hb.size, h.tab.but hb (by unfold Dvs; omega), hp, by omega⟩, hsb, hb⟩

theorem save_dn {B : Nat} {w W : World} {sb g bl bm at_ now t : Nat} {d : Dv} {zs0 : List Int} (h : Dn B w W g bl bm d) (hs : Su W sb g at_ now t zs0) (hsb : B ≤ sb) (hc : d.calls < 900000) (ha : at_ + 1 < d.n) (hnow : now ≤ 1) (htt : t < 1000000) {v : Value} {zs : List Int} (hv : Sl W v zs) (hl : zs.length ≤ 40) :
    Calls Tryd.prog 11 #[.pointer (some ⟨sb, 0, none⟩), v] W fun e W' => e = .returned (.int .i64 (erD (sv d at_ now t zs).1)) ∧ ∃ bm', Dn B w W' g bl bm' (sv d at_ now t zs).2 ∧
      ((sv d at_ now t zs).1 = true ∧ Su W' sb g at_ (1 - now) (t + 1) zs ∨ (sv d at_ now t zs).1 = false ∧ Su W' sb g at_ now t zs0) ∧ But (fun k => Dvs g bl bm k ∨ k = sb) W W' := by
  refine (save_any h.dev hs h.tab hc ha hnow htt hv hl).mono ?_
  rintro e W' ⟨rfl, bm', hd', hm, hss, hb⟩
  have hlo := h.lo
  have hB := h.big
  have hp := h.pos
  exact ⟨rfl, bm', ⟨hd', Below.but h.bel hB hb (fun k e => by unfold Dvs at e; omega), Nat.le_trans hB hb.size, h.tab.but hb (by unfold Dvs; omega), hp, by omega⟩, hss, hb⟩

theorem save_free {B : Nat} {w W : World} {sb g bl bm at_ now t : Nat} {d : Dv} {zs0 : List Int} (h : Dn B w W g bl bm d) (hs : Su W sb g at_ now t zs0) (hsb : B ≤ sb) (hd : d.fuse = none) (hc : d.calls < 900000) (ha : at_ + 1 < d.n) (hnow : now ≤ 1) (htt : t < 1000000) {v : Value} {zs : List Int} (hv : Sl W v zs) (hl : zs.length ≤ 40) :
    Calls Tryd.prog 11 #[.pointer (some ⟨sb, 0, none⟩), v] W fun e W' => e = .returned (.int .i64 0) ∧ ∃ bm', Dn B w W' g bl bm' (sv1 d at_ now t zs) ∧ Su W' sb g at_ (1 - now) (t + 1) zs ∧ But (fun k => Dvs g bl bm k ∨ k = sb) W W' := by
  refine (save_dn h hs hsb hc ha hnow htt hv hl).mono ?_
  rw [sv_free hd]
  rintro e W' ⟨rfl, bm', hd', hss, hb⟩
  refine ⟨rfl, bm', hd', ?_, hb⟩
  rcases hss with ⟨-, h⟩ | ⟨h, -⟩
  · exact h
  · cases h

theorem open_dn {B : Nat} {w W : World} {g bl bm at_ now t : Nat} {d : Dv} {zs : List Int} (h : Dn B w W g bl bm d) (hh : Hold d at_ now t zs) {z : Int} (hz : z = (at_ : Int)) :
    Calls Tryd.prog 12 #[.pointer (some ⟨g, 0, none⟩), .int .i64 z] W fun e W' => ∃ sb, e = .returned (.tuple #[.pointer (some ⟨sb, 0, none⟩), .int .i64 0]) ∧ Su W' sb g at_ now t zs ∧ W.heap.size ≤ sb ∧ Below W.heap.size W W' := by
  subst hz
  have hpos := hh.fits.pos
  obtain ⟨t', zs', hf', ht', hlt⟩ := hh.there
  have hs : now = 0 ∨ now = 1 := by have := hh.side; omega
  rcases hs with rfl | rfl
  · refine (open_both h.dev h.tab hh.room (t0 := t) (z0 := zs) (t1 := t') (z1 := zs') (.inl ⟨hh.here, hh.fits⟩) (.inl ⟨ht', hf'⟩)).mono ?_
    have hp : pick t zs t' zs' 2 = (0, t, zs) := by simp only [pick]; rw [if_neg (by omega)]
    rw [hp]
    rintro e W' ⟨⟨h0, -⟩ | ⟨-, sb, rfl, hsu, hsb⟩, hb⟩
    · dsimp only at h0; omega
    · exact ⟨sb, rfl, hsu, hsb, hb⟩
  · refine (open_both h.dev h.tab hh.room (t0 := t') (z0 := zs') (t1 := t) (z1 := zs) (.inl ⟨ht', hf'⟩) (.inl ⟨hh.here, hh.fits⟩)).mono ?_
    have hp : pick t' zs' t zs 2 = (1, t, zs) := by simp only [pick]; rw [if_pos (by omega)]
    rw [hp]
    rintro e W' ⟨⟨h0, -⟩ | ⟨-, sb, rfl, hsu, hsb⟩, hb⟩
    · dsimp only at h0; omega
    · exact ⟨sb, rfl, hsu, hsb, hb⟩

theorem open_none {B : Nat} {w W : World} {g bl bm at_ : Nat} {d : Dv} (h : Dn B w W g bl bm d) (ha : at_ + 1 < d.n) (h0 : d.at_ at_ = nought) (h1 : d.at_ (at_ + 1) = nought) {z : Int} (hz : z = (at_ : Int)) :
    Calls Tryd.prog 12 #[.pointer (some ⟨g, 0, none⟩), .int .i64 z] W fun e W' => e = .returned (.tuple #[.pointer none, .int .i64 8]) ∧ Below W.heap.size W W' := by
  subst hz
  refine (open_both h.dev h.tab ha (t0 := 0) (z0 := []) (t1 := 0) (z1 := []) (.inr ⟨h0, rfl, rfl⟩) (.inr ⟨h1, rfl, rfl⟩)).mono ?_
  rintro e W' ⟨⟨-, rfl⟩ | ⟨h0, -⟩, hb⟩
  · exact ⟨rfl, hb⟩
  · simp [pick] at h0

theorem write_dn {B : Nat} {w W : World} {g bl bm : Nat} {d : Dv} (h : Dn B w W g bl bm d) (hd : d.fuse = none) (hc : d.calls < 900000) {z : Int} (i : Nat) (hz : z = (i : Int)) (hi : i < d.n) {v : Value} {zs : List Int} (hv : Sl W v zs) (hl : zs.length ≤ 64) :
    Calls Tryd.prog 18 #[.pointer (some ⟨g, 0, none⟩), .int .i64 z, v] W fun e W' => e = .returned (.int .i64 0) ∧ Dn B w W' g bl bm (d.write i zs) ∧ But (Dvs g bl bm) W W' := by
  subst hz
  refine (write_any h.dev (by simp [Dv.dead, hd]) (by omega) hi hv hl).mono ?_
  rintro e W' ⟨rfl, hd', hb⟩
  have hlo := h.lo
  have hB := h.big
  have hp := h.pos
  have hb' : But (Dvs g bl bm) W W' := hb.mono fun k _ e => e.elim .inl fun e => .inr (.inr e)
  exact ⟨rfl, ⟨hd', Below.but h.bel hB hb' (fun k e => by unfold Dvs at e; omega), Nat.le_trans hB hb'.size, h.tab.but hb' (by unfold Dvs; omega), hp, hlo⟩, hb'⟩

theorem fuse_dn {B : Nat} {w W : World} {g bl bm : Nat} {d : Dv} (h : Dn B w W g bl bm d) (z : Int) (hz : z ≤ 9223372036854775807) :
    Calls Tryd.prog 17 #[.pointer (some ⟨g, 0, none⟩), .int .i64 z] W fun e W' => e = .returned (.tuple #[]) ∧ Dn B w W' g bl bm (d.fused z) ∧ But (Dvs g bl bm) W W' := by
  refine (fuse_any h.dev z hz).mono ?_
  rintro e W' ⟨rfl, hd', hb⟩
  have hlo := h.lo
  have hB := h.big
  have hp := h.pos
  have hb' : But (Dvs g bl bm) W W' := hb.mono fun k _ e => .inl e
  exact ⟨rfl, ⟨hd', Below.but h.bel hB hb' (fun k e => by unfold Dvs at e; omega), Nat.le_trans hB hb'.size, h.tab.but hb' (by unfold Dvs; omega), hp, hlo⟩, hb'⟩

/-- Another text's struct stays. -/
theorem Su.kept {W W' : World} {sb g at_ now t g' bl' bm' : Nat} {zs : List Int} {d : Dv} (h : Su W sb g at_ now t zs) (hd : DevAt W g' bl' bm' d) (hb : But (Dvs g' bl' bm') W W') : Su W' sb g at_ now t zs :=
  h.but hb (by have := h.dev hd; unfold Dvs; omega)
theorem Su.kept2 {W W' : World} {sb g at_ now t g' bl' bm' sb' : Nat} {zs : List Int} {d : Dv} (h : Su W sb g at_ now t zs) (hd : DevAt W g' bl' bm' d) (hne : sb ≠ sb') (hb : But (fun k => Dvs g' bl' bm' k ∨ k = sb') W W') : Su W' sb g at_ now t zs :=
  h.but hb (by have := h.dev hd; unfold Dvs; omega)

end Go.Proofs.YtiaicpdbobgkoaaDoor
