/-
  The walk of wallslaw's lent.
-/
import Derived.Test.YtcmcfafhllpojaaGreatLent4
namespace Go.Proofs.YtcmcfafhllpojaaGreat
open Go.RowKit
attribute [local go_sem] Tryz.nilInts Tryz.nilGrid

/-- The state of the walk through lent: the boxed configuration, the result's variable. -/
structure LSt (w wr : World) (c : Cf) (s1 : Sl) : Prop where
  below : Below w.heap.size w wr
  box : Row wr w.heap.size (cfgL c s1) 29
  res : ∃ s2 c2, Row wr (w.heap.size + 1) (cfgL c2 s2) 29

def cf0 : Cf := ⟨0, 0, 0, 0, 0, 0, 0, [], 0, [], [], 0, 0⟩
def sl0 : Sl := ⟨none, 0, 0, none, 0, 0, none, 0, 0⟩

theorem LSt.start (w : World) (c : Cf) (s : Sl) : LSt w ((w.alloc (.cells (cfgA c s) 29)).alloc (.cells (cfgA cf0 sl0) 29)) c s := by
  refine ⟨((Below.refl _ _).alloc (Nat.le_refl _) _).alloc (by simp) _, ?_, ⟨sl0, cf0, ?_⟩⟩
  · have : Row (w.alloc (.cells (cfgA c s) 29)) w.heap.size (cfgL c s) 29 := heap_alloc_new w _
    exact this.alloc _
  · have := heap_alloc_new (w.alloc (.cells (cfgA c s) 29)) (.cells (cfgA cf0 sl0) 29)
    rw [World.size_alloc] at this
    exact this

theorem LSt.call {w wr wr' : World} {c : Cf} {s1 : Sl} {n : Nat} (h : LSt w wr c s1) (hb : Below n wr wr') (hn : n = wr.heap.size) : LSt w wr' c s1 := by
  subst hn
  refine ⟨below_step h.below hb rfl, h.box.below hb h.box.lt, ?_⟩
  obtain ⟨s2, c2, hr⟩ := h.res
  exact ⟨s2, c2, hr.below hb hr.lt⟩

theorem LSt.alloc {w wr : World} {c : Cf} {s1 : Sl} (h : LSt w wr c s1) (o : Obj) : LSt w (wr.alloc o) c s1 :=
  h.call ((Below.refl _ _).alloc (Nat.le_refl _) o) rfl

theorem LSt.other {w wr : World} {c : Cf} {s1 : Sl} (h : LSt w wr c s1) (g i : Nat) (v : Value) (hg : w.heap.size + 1 < g) : LSt w (wr.setCell ⟨g, i, none⟩ v) c s1 := by
  refine ⟨h.below.setCell (by simp; omega) _, h.box.setCellOther _ _ (by omega), ?_⟩
  obtain ⟨s2, c2, hr⟩ := h.res
  exact ⟨s2, c2, hr.setCellOther _ _ (by omega)⟩

theorem LSt.set7 {w wr : World} {c : Cf} {s1 : Sl} (h : LSt w wr c s1) (a : Option Addr) (l k : Nat) : LSt w (wr.setCell ⟨w.heap.size, 7, none⟩ (.slice a l k)) c { s1 with wa := a, wl := l, wc := k } := by
  refine ⟨h.below.setCell (Nat.le_refl _) _, h.box.setCell 7 _, ?_⟩
  obtain ⟨s2, c2, hr⟩ := h.res
  exact ⟨s2, c2, hr.setCellOther _ _ (by omega)⟩
theorem LSt.set9 {w wr : World} {c : Cf} {s1 : Sl} (h : LSt w wr c s1) (a : Option Addr) (l k : Nat) : LSt w (wr.setCell ⟨w.heap.size, 9, none⟩ (.slice a l k)) c { s1 with sa := a, sl := l, sc := k } := by
  refine ⟨h.below.setCell (Nat.le_refl _) _, h.box.setCell 9 _, ?_⟩
  obtain ⟨s2, c2, hr⟩ := h.res
  exact ⟨s2, c2, hr.setCellOther _ _ (by omega)⟩
theorem LSt.set10 {w wr : World} {c : Cf} {s1 : Sl} (h : LSt w wr c s1) (a : Option Addr) (l k : Nat) : LSt w (wr.setCell ⟨w.heap.size, 10, none⟩ (.slice a l k)) c { s1 with ta := a, tl := l, tc := k } := by
  refine ⟨h.below.setCell (Nat.le_refl _) _, h.box.setCell 10 _, ?_⟩
  obtain ⟨s2, c2, hr⟩ := h.res
  exact ⟨s2, c2, hr.setCellOther _ _ (by omega)⟩

theorem LSt.facts {w wr : World} {c : Cf} {s1 : Sl} (h : LSt w wr c s1) :
    (∀ o, wr.cell? ⟨w.heap.size, o, none⟩ = (cfgA c s1)[o]?) ∧ (∀ o, wr.frozen? ⟨w.heap.size, o, none⟩ = false) ∧
    ∃ s2 c2, (∀ o, wr.cell? ⟨w.heap.size + 1, o, none⟩ = (cfgA c2 s2)[o]?) ∧ (∀ o, wr.frozen? ⟨w.heap.size + 1, o, none⟩ = false) := by
  refine ⟨fun o => by rw [h.box.cell]; simp, fun o => h.box.frozen o, ?_⟩
  obtain ⟨s2, c2, hr⟩ := h.res
  exact ⟨s2, c2, fun o => by rw [hr.cell]; simp, fun o => hr.frozen o⟩

/-- The lists of a configuration that was lent, but for its turns. -/
structure LentW (w : World) (lo : Nat) (c : Cf) (s s1 : Sl) : Prop where
  ways : ∃ g, lo ≤ g ∧ LentI w s.wa c.ways s1.wa s1.wl s1.wc g
  slots : ∃ g, lo ≤ g ∧ LentI w s.sa c.slots s1.sa s1.sl s1.sc g

set_option maxRecDepth 100000 in
set_option maxHeartbeats 1000000 in
theorem lent_nil (c : Cf) (s : Sl) (w : World) (h : CfgAt w c s) (hc : CfR c) (hn : s.ta = none) :
    Calls Tryz.prog 83 #[cfgV c s] w fun e w' => ∃ s1, e = .returned (.tuple #[cfgV c s1, .slice none 0 0]) ∧ Below w.heap.size w w' ∧ LentW w' w.heap.size c s s1 ∧ s1.ta = none ∧ s1.tl = 0 ∧ s1.tc = 0 := by
  obtain ⟨wa, wl, wc, sa, sl, sc, ta, tl, tc⟩ := s
  subst hn
  obtain rfl : tc = 0 := h.turns.hnil rfl
  obtain rfl : tl = 0 := Nat.eq_zero_of_le_zero h.turns.hle
  have k0 := LSt.start w c ⟨wa, wl, wc, sa, sl, sc, none, 0, 0⟩
  have r1 := hc.ways
  rw [h.ways.hlen] at r1
  have r2 := hc.slots
  rw [h.slots.hlen] at r2
  go_enter Tryz.func83, Tryz.ntmps83
  go_wp2_with fail
  refine (lentInts_any wa wl wc c.ways _ (h.ways.below k0.below (Nat.le_refl _)) r1).mono ?_
  rintro e w1 ⟨va, vl, vc, rfl, l1, hb1, hz1⟩
  have k1 := k0.call hb1 rfl
  obtain ⟨q1, f1, s2, c2, q2, f2⟩ := k1.facts
  go_wp2_with fail
  have k2 := k1.set7 va vl vc
  have l2 : LentI (w1.setCell ⟨w.heap.size, 7, none⟩ (.slice va vl vc)) wa c.ways va vl vc (w.heap.size + 2) := by
    simp only [World.size_alloc] at l1
    exact l1.same (Below.heap_setCell _ _ _ _ (by simp; omega))
  have hz2 : w.heap.size + 2 ≤ (w1.setCell ⟨w.heap.size, 7, none⟩ (.slice va vl vc)).heap.size := by
    have := hb1.size
    simp only [World.size_alloc] at this
    simpa [World.setCell] using this
  clear q1 f1 q2 f2 hb1 hz1 l1 k0 k1
  generalize w1.setCell ⟨w.heap.size, 7, none⟩ (.slice va vl vc) = w2 at *
  clear w1 s2 c2
  refine (lentInts_any sa sl sc c.slots _ (h.slots.below k2.below (Nat.le_refl _)) r2).mono ?_
  rintro e w3 ⟨ua, ul, uc, rfl, l3, hb3, hz3⟩
  have k3 := k2.call hb3 rfl
  obtain ⟨q1, f1, s2, c2, q2, f2⟩ := k3.facts
  go_wp2
  have l2' := l2.below hb3 (Nat.le_refl _)
  refine bodyPost_ret (v := .tuple #[cfgV c ⟨va, vl, vc, ua, ul, uc, none, 0, 0⟩, .slice none 0 0]) (by simp [results, Tryz.results83, go_sem, q2]) rfl ⟨⟨va, vl, vc, ua, ul, uc, none, 0, 0⟩, rfl, ?_, ⟨⟨w.heap.size + 2, by omega, l2'.same ?_⟩, ⟨w2.heap.size, by omega, l3.same ?_⟩⟩, rfl, rfl, rfl⟩
  · iterate 14 refine Below.setCell ?_ (by simp) _
    exact k3.below
  · iterate 14 rw [Below.heap_setCell]
    all_goals (simp only []; omega)
  · iterate 14 rw [Below.heap_setCell]
    all_goals (simp only []; omega)
end Go.Proofs.YtcmcfafhllpojaaGreat
