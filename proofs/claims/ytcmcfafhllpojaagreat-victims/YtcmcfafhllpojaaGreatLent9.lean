/-
  The walk of wallslaw's whole.
-/
import Derived.Test.YtcmcfafhllpojaaGreatLent8
namespace Go.Proofs.YtcmcfafhllpojaaGreat
open Go.RowKit
attribute [local go_sem] Tryz.nilInts Tryz.nilGrid

/-- A configuration that was lent, of one that lay in the world w0. -/
def LentC (w0 w : World) (c : Cf) (s s1 : Sl) (ma : Option Addr) (ml mc : Nat) : Prop :=
  LentW w w0.heap.size c s s1 ∧ ((s.ta = none ∧ s1.ta = none ∧ s1.tl = 0 ∧ s1.tc = 0 ∧ ma = none ∧ ml = 0 ∧ mc = 0) ∨ (s.ta ≠ none ∧ ∃ gt gm T M G, LentG w0 w w0.heap.size c.turns s.ta s1.ta s1.tl s1.tc ma ml mc gt gm T M G))

theorem lent_any (c : Cf) (s : Sl) (w : World) (h : CfgAt w c s) (hc : CfR c) :
    Calls Tryz.prog 83 #[cfgV c s] w fun e w' => ∃ s1 ma ml mc, e = .returned (.tuple #[cfgV c s1, .slice ma ml mc]) ∧ Below w.heap.size w w' ∧ LentC w w' c s s1 ma ml mc := by
  by_cases hn : s.ta = none
  · refine (lent_nil c s w h hc hn).mono ?_
    rintro e w' ⟨s1, rfl, h1, h2, h3, h4, h5⟩
    exact ⟨s1, _, _, _, rfl, h1, h2, Or.inl ⟨hn, h3, h4, h5, rfl, rfl, rfl⟩⟩
  · refine (lent_some c s w h hc hn).mono ?_
    rintro e w' ⟨s1, ma, ml, mc, rfl, h1, h2, h3⟩
    exact ⟨s1, ma, ml, mc, rfl, h1, h2, Or.inr ⟨hn, h3⟩⟩

theorem LentC.same {w0 w w' : World} {c : Cf} {s s1 : Sl} {ma : Option Addr} {ml mc : Nat} (h : LentC w0 w c s s1 ma ml mc) (hb : Below w.heap.size w w') : LentC w0 w' c s s1 ma ml mc := by
  obtain ⟨⟨⟨g1, b1, h1⟩, ⟨g2, b2, h2⟩⟩, h3⟩ := h
  refine ⟨⟨⟨g1, b1, h1.below hb (Nat.le_refl _)⟩, ⟨g2, b2, h2.below hb (Nat.le_refl _)⟩⟩, ?_⟩
  rcases h3 with h3 | ⟨hn, gt, gm, T, M, G, h4⟩
  · exact Or.inl h3
  · have st := h4.st
    refine Or.inr ⟨hn, gt, gm, T, M, G, h4.hta, h4.htl, h4.htc, h4.hma, h4.hml, h4.hmc, h4.lo1, h4.lo2, h4.lo3, ?_⟩
    refine ⟨st.rowT.below hb st.rowT.lt, st.rowM.below hb st.rowM.lt, st.lenT, st.lenM, st.mt, fun i hi => ⟨(st.glo i hi).1, Nat.lt_of_lt_of_le (st.glo i hi).2 hb.size⟩, st.ginc, ?_, ?_⟩
    · intro i hi hin
      obtain ⟨b, off, ia, il, ic, va, vl, vc, a1, a2, a3, a4⟩ := st.src i hi hin
      exact ⟨b, off, ia, il, ic, va, vl, vc, a1, a2, a3, a4.below hb (Nat.le_refl _)⟩
    · intro i hi hin
      obtain ⟨a1, a2⟩ := st.tail i hi hin
      exact ⟨a1, a2.below hb a2.lt⟩

/-- What was lent reads as the configuration does. -/
theorem LentC.reads {w0 w : World} {c : Cf} {s s1 : Sl} {ma : Option Addr} {ml mc : Nat} (h : LentC w0 w c s s1 ma ml mc) (h0 : CfgAt w0 c s) (hc : CfR c) : CfgAt w c s1 := by
  obtain ⟨⟨⟨g1, b1, h1⟩, ⟨g2, b2, h2⟩⟩, h3⟩ := h
  have r1 := hc.ways
  rw [h0.ways.hlen] at r1
  have r2 := hc.slots
  rw [h0.slots.hlen] at r2
  refine ⟨h1.ints h0.ways r1, h2.ints h0.slots r2, ?_⟩
  rcases h3 with ⟨e0, e1, e2, e3, _⟩ | ⟨hn, gt, gm, T, M, G, h4⟩
  · have e4 : c.turns = [] := by
      have h5 := h0.turns.hnil e0
      have h6 := h0.turns.hle
      have h7 := h0.turns.hlen
      exact List.eq_nil_of_length_eq_zero (by omega)
    rw [e1, e2, e3, e4]
    exact ⟨rfl, by omega, by unfold maxLen; omega, fun _ => rfl, fun i hi => absurd hi (Nat.not_lt_zero _)⟩
  · have r3 := hc.turns
    rw [h4.hta, h4.htl, h4.htc]
    refine ⟨rfl, by omega, by unfold maxLen; omega, (fun h => by cases h), fun i hi => ?_⟩
    obtain ⟨b, off, ia, il, ic, va, vl, vc, a1, a2, a3, a4⟩ := h4.st.src i (by omega) hi
    obtain ⟨b', off', ia', il', ic', e5, e6, hiS⟩ := h0.turns.hat i (by rw [← h0.turns.hlen]; exact hi)
    rw [a1] at e5
    simp only [Option.some.injEq, Addr.mk.injEq, and_true] at e5
    obtain ⟨rfl, rfl⟩ := e5
    rw [a2] at e6
    simp only [Option.some.injEq, Value.slice.injEq] at e6
    obtain ⟨rfl, rfl, rfl⟩ := e6
    have rk := hc.each i hi
    rw [hiS.hlen] at rk
    refine ⟨gt, 0, va, vl, vc, rfl, ?_, a4.ints hiS rk⟩
    rw [Nat.zero_add, h4.st.rowT.cell, a3]

/-- wholeTurns of whatever was lent. -/
theorem wholeTurns_any (w0 wl w : World) (c : Cf) (s s1 : Sl) (ma : Option Addr) (ml mc : Nat) (h0 : CfgAt w0 c s) (hc : CfR c) (hb : Below w0.heap.size w0 wl) (h : LentC w0 wl c s s1 ma ml mc) (hbl : Below wl.heap.size wl w) :
    Calls Tryz.prog 134 #[.slice s1.ta s1.tl s1.tc, .slice ma ml mc, .slice s.ta s.tl s.tc] w fun e w' => e = .returned (.bool true) ∧ Below w0.heap.size w w' ∧ Shaped w w' ∧ (∀ j, wl.heap.size ≤ j → w'.heap[j]? = w.heap[j]?) := by
  have h' := h.same hbl
  have hb' : Below w0.heap.size w0 w := below_step hb hbl rfl
  rcases h.2 with ⟨e0, e1, e2, e3, e4, e5, e6⟩ | ⟨hn, gt, gm, T, M, G, h4⟩
  · have t1 := h0.turns.hnil e0
    have t2 := h0.turns.hle
    rw [e0, show s.tl = 0 by omega, t1]
    refine (wholeTurns_none _ _ _ _ _ _ w).mono ?_
    rintro e w' ⟨rfl, rfl⟩
    exact ⟨rfl, Below.refl _ _, Shaped.refl _, fun _ _ => rfl⟩
  · rcases h'.2 with ⟨e0, _⟩ | ⟨_, gt', gm', T', M', G', h5⟩
    · exact absurd e0 hn
    · clear h5 gt' gm' T' M' G'
      obtain ⟨at0, ha⟩ : ∃ x, s.ta = some x := by
        cases hx : s.ta with
        | none => exact absurd hx hn
        | some x => exact ⟨x, rfl⟩
      have st := h4.st
      have hl := h0.turns.hlen
      have st' : GSt w0 w (gm + 1) s.ta c.turns c.turns.length (c.turns.length + 8) gt gm T M G := by
        refine ⟨st.rowT.below hbl st.rowT.lt, st.rowM.below hbl st.rowM.lt, st.lenT, st.lenM, st.mt, fun i hi => ⟨(st.glo i hi).1, Nat.lt_of_lt_of_le (st.glo i hi).2 hbl.size⟩, st.ginc, ?_, ?_⟩
        · intro i hi hin
          obtain ⟨b, off, ia, il, ic, va, vl, vc, a1, a2, a3, a4⟩ := st.src i hi hin
          exact ⟨b, off, ia, il, ic, va, vl, vc, a1, a2, a3, a4.below hbl (Nat.le_refl _)⟩
        · intro i hi hin
          obtain ⟨a1, a2⟩ := st.tail i hi hin
          exact ⟨a1, a2.below hbl a2.lt⟩
      have g0 := h0.turns
      have r3 := hc.turns
      rw [h4.hta, h4.htl, h4.htc, h4.hma, h4.hml, h4.hmc, ← hl, ha]
      rw [ha] at g0 st'
      rw [← hl] at g0
      exact wholeTurns_some w0 w w0.heap.size c at0 c.turns.length s.tc gt gm T M G r3 hc g0 (Nat.le_refl _) hb' h4.lo1 h4.lo3 st' wl.heap.size (fun i hi => (st.glo i hi).2)

theorem LentI.own {w : World} {sa : Option Addr} {xs : List Int} {va : Option Addr} {vl vc g : Nat} (h : LentI w sa xs va vl vc g) : va ≠ none → g < w.heap.size := by
  intro hv
  rcases h with ⟨_, h2, _, _⟩ | ⟨_, _, _, _, h5⟩
  · exact absurd h2 hv
  · exact h5.lt

set_option maxRecDepth 100000 in
set_option maxHeartbeats 2000000 in
theorem whole_any (w0 w : World) (c : Cf) (s s1 : Sl) (ma : Option Addr) (ml mc : Nat) (h0 : CfgAt w0 c s) (hc : CfR c) (hb : Below w0.heap.size w0 w) (h : LentC w0 w c s s1 ma ml mc) :
    Calls Tryz.prog 84 #[cfgV c s1, .slice ma ml mc, cfgV c s] w fun e w' => e = .returned (.bool true) ∧ Below w0.heap.size w w' := by
  have HC : Hid _ := h
  obtain ⟨⟨⟨g1, b1, h1⟩, ⟨g2, b2, h2⟩⟩, _⟩ := h
  have r1 := hc.ways
  rw [h0.ways.hlen] at r1
  have r2 := hc.slots
  rw [h0.slots.hlen] at r2
  have bW : Below w.heap.size w ((w.alloc (.cells (cfgA c s1) 29)).alloc (.cells (cfgA c s) 29)) := ((Below.refl _ _).alloc (Nat.le_refl _) _).alloc (by simp) _
  have bW0 := below_step hb bW rfl
  have V1 : Hid _ := h1.len h0.ways
  have V2 : Hid _ := h2.len h0.slots
  have o1 := h1.own
  have o2 := h2.own
  have O1 : Hid _ := o1
  have O2 : Hid _ := o2
  have rB : Row ((w.alloc (.cells (cfgA c s1) 29)).alloc (.cells (cfgA c s) 29)) w.heap.size (cfgL c s1) 29 := by
    have : Row (w.alloc (.cells (cfgA c s1) 29)) w.heap.size (cfgL c s1) 29 := heap_alloc_new w _
    exact this.alloc _
  clear o1 o2
  go_enter Tryz.func84, Tryz.ntmps84
  go_wp2_with fail
  refine (wholeInts_any _ _ _ c.ways _ _ _ g1 _ (h0.ways.below bW0 (Nat.le_refl _)) r1 (h1.below bW (Nat.le_refl _))).mono ?_
  rintro e w' ⟨rfl, rfl⟩
  go_wp2_with fail
  refine (wholeInts_any _ _ _ c.slots _ _ _ g2 _ (h0.slots.below bW0 (Nat.le_refl _)) r2 (h2.below bW (Nat.le_refl _))).mono ?_
  rintro e w' ⟨rfl, rfl⟩
  go_wp2_with fail
  refine (wholeTurns_any w0 w _ c s s1 ma ml mc h0 hc hb HC.out bW).mono ?_
  rintro e w2 ⟨rfl, p1, p2, p3⟩
  have q2 : ∀ o, w2.cell? ⟨w.heap.size, o, none⟩ = (cfgA c s1)[o]? := by
    intro o
    have : Row w2 w.heap.size (cfgL c s1) 29 := by unfold Row; rw [p3 _ (Nat.le_refl _)]; exact rB
    rw [this.cell]; simp
  have room1 := ((h1.below bW (Nat.le_refl _)).room).shaped p2
  have room2 := ((h2.below bW (Nat.le_refl _)).room).shaped p2
  have P1 : Hid _ := p1
  clear p1 p2 p3 rB
  go_wp2_with fail
  refine (spoilInts_any _ _ _ g1 w0.heap.size 0 _ (by rw [V1.out]; exact r1) room1 b1).mono ?_
  rintro e w3 ⟨rfl, p1, p2, p3, _⟩
  have q3 : ∀ o, w3.cell? ⟨w.heap.size, o, none⟩ = (cfgA c s1)[o]? := by
    intro o
    rw [World.cell?_of_block (w := w2) (p3 w.heap.size (fun hv => by have := O1.out hv; omega))]
    exact q2 o
  have room2' := room2.shaped p2
  have P3 : Hid _ := p1
  clear p1 p2 p3 q2
  go_wp2_with fail
  refine (spoilInts_any _ _ _ g2 w0.heap.size 0 _ (by rw [V2.out]; exact r2) room2' b2).mono ?_
  rintro e w4 ⟨rfl, p1, p2, p3, _⟩
  have P4 : Hid _ := p1
  clear p1 p2 p3 q3
  go_wp2
  go_ret
  exact ⟨rfl, (((bW.mono hb.size).trans P1.out).trans P3.out).trans P4.out⟩
end Go.Proofs.YtcmcfafhllpojaaGreat
