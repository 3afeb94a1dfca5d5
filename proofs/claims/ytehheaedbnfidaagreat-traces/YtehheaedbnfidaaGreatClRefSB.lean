/-
  One domain's play: stores.
-/
import Derived.Test.YtehheaedbnfidaaGreatClRefS9
namespace Go.Proofs.YtehheaedbnfidaaGreat
open Go.RowKit

theorem Tryz.infoEvent : (Tryz.prog.info? 58).map (fun i => (i.zero, i.size, i.bytes)) = some (some (.agg #[.int .i64 0, .int .i64 0, .int .i64 0, .int .i64 0, .int .i64 0, .int .i64 0]), 6, 48) := by kernel_rfl

theorem row_int {w : World} {g : Nat} {xs : List Int} {t : TypeId} (h : Row w g (xs.map (Value.int .i64)) t) {k : Nat} (hk : k < xs.length) : w.cell? ⟨g, k, none⟩ = some (.int .i64 (xs.getD k 0)) := by
  rw [h.cell, List.getElem?_map, List.getElem?_eq_getElem hk]
  simp [List.getD, List.getElem?_eq_getElem hk]

theorem SoloM.setN {w : World} {base : Nat} {X : SLoc} {S : So} (h : SoloM w base X S) (k : Nat) (v : Int) : SoloM (w.setCell ⟨X.gn, k, none⟩ (.int .i64 v)) base X { S with next := S.next.set k v } := by
  obtain ⟨d1, d2, d3, d4, d5, d6⟩ := h.dis
  have n1 : ∀ {g A t}, Row w g A t → g ≠ X.gn → Row (w.setCell ⟨X.gn, k, none⟩ (.int .i64 v)) g A t := fun hr ht => hr.setCellOther _ _ ht
  have n2 : ∀ {g A t}, Row w g A t → t ≠ 3 → Row (w.setCell ⟨X.gn, k, none⟩ (.int .i64 v)) g A t := fun hr ht => hr.setCellOther _ _ (fun e => by subst e; exact ht (row_type hr h.nx))
  have own : Row (w.setCell ⟨X.gn, k, none⟩ (.int .i64 v)) X.gn ((S.next.set k v).map (Value.int .i64)) 3 := by
    rw [List.map_set]; exact h.nx.setCell k _
  refine ⟨n2 h.row (by decide), h.bs, owns_same h.log fun g hg => Below.heap_setCell _ _ _ _ (fun e => by subst e; exact own_ne h.log h.nx (by decide) hg), h.ll, owns_same h.evs fun g hg => Below.heap_setCell _ _ _ _ (fun e => by subst e; exact own_ne h.evs h.nx (by decide) hg), h.el, own, by simp [h.nl], h.nb, n1 h.fx (Ne.symm d1), h.fl, h.fb, n1 h.bx (Ne.symm d2), h.bl, h.bb, n1 h.hx (Ne.symm d3), h.hl, h.hb, h.dis, ?_⟩
  obtain ⟨q1, q2⟩ := h.q
  refine ⟨q1, ?_⟩
  rcases q2 with q2 | ⟨g, off, cur, a1, a2, a3, a4, a5, a6, a7, b1, b2, b3, b4⟩
  · exact Or.inl q2
  · exact Or.inr ⟨g, off, cur, a1, a2, n1 a3 b1, a4, a5, a6, a7, b1, b2, b3, b4⟩

theorem SoloM.setF {w : World} {base : Nat} {X : SLoc} {S : So} (h : SoloM w base X S) (k : Nat) (v : Int) : SoloM (w.setCell ⟨X.gf, k, none⟩ (.int .i64 v)) base X { S with free := S.free.set k v } := by
  obtain ⟨d1, d2, d3, d4, d5, d6⟩ := h.dis
  have n1 : ∀ {g A t}, Row w g A t → g ≠ X.gf → Row (w.setCell ⟨X.gf, k, none⟩ (.int .i64 v)) g A t := fun hr ht => hr.setCellOther _ _ ht
  have n2 : ∀ {g A t}, Row w g A t → t ≠ 3 → Row (w.setCell ⟨X.gf, k, none⟩ (.int .i64 v)) g A t := fun hr ht => hr.setCellOther _ _ (fun e => by subst e; exact ht (row_type hr h.fx))
  have own : Row (w.setCell ⟨X.gf, k, none⟩ (.int .i64 v)) X.gf ((S.free.set k v).map (Value.int .i64)) 3 := by
    rw [List.map_set]; exact h.fx.setCell k _
  refine ⟨n2 h.row (by decide), h.bs, owns_same h.log fun g hg => Below.heap_setCell _ _ _ _ (fun e => by subst e; exact own_ne h.log h.fx (by decide) hg), h.ll, owns_same h.evs fun g hg => Below.heap_setCell _ _ _ _ (fun e => by subst e; exact own_ne h.evs h.fx (by decide) hg), h.el, n1 h.nx d1, h.nl, h.nb, own, by simp [h.fl], h.fb, n1 h.bx (Ne.symm d4), h.bl, h.bb, n1 h.hx (Ne.symm d5), h.hl, h.hb, h.dis, ?_⟩
  obtain ⟨q1, q2⟩ := h.q
  refine ⟨q1, ?_⟩
  rcases q2 with q2 | ⟨g, off, cur, a1, a2, a3, a4, a5, a6, a7, b1, b2, b3, b4⟩
  · exact Or.inl q2
  · exact Or.inr ⟨g, off, cur, a1, a2, n1 a3 b2, a4, a5, a6, a7, b1, b2, b3, b4⟩

theorem SoloM.setB {w : World} {base : Nat} {X : SLoc} {S : So} (h : SoloM w base X S) (k : Nat) (v : Int) : SoloM (w.setCell ⟨X.gb, k, none⟩ (.int .i64 v)) base X { S with began := S.began.set k v } := by
  obtain ⟨d1, d2, d3, d4, d5, d6⟩ := h.dis
  have n1 : ∀ {g A t}, Row w g A t → g ≠ X.gb → Row (w.setCell ⟨X.gb, k, none⟩ (.int .i64 v)) g A t := fun hr ht => hr.setCellOther _ _ ht
  have n2 : ∀ {g A t}, Row w g A t → t ≠ 3 → Row (w.setCell ⟨X.gb, k, none⟩ (.int .i64 v)) g A t := fun hr ht => hr.setCellOther _ _ (fun e => by subst e; exact ht (row_type hr h.bx))
  have own : Row (w.setCell ⟨X.gb, k, none⟩ (.int .i64 v)) X.gb ((S.began.set k v).map (Value.int .i64)) 3 := by
    rw [List.map_set]; exact h.bx.setCell k _
  refine ⟨n2 h.row (by decide), h.bs, owns_same h.log fun g hg => Below.heap_setCell _ _ _ _ (fun e => by subst e; exact own_ne h.log h.bx (by decide) hg), h.ll, owns_same h.evs fun g hg => Below.heap_setCell _ _ _ _ (fun e => by subst e; exact own_ne h.evs h.bx (by decide) hg), h.el, n1 h.nx d2, h.nl, h.nb, n1 h.fx d4, h.fl, h.fb, own, by simp [h.bl], h.bb, n1 h.hx (Ne.symm d6), h.hl, h.hb, h.dis, ?_⟩
  obtain ⟨q1, q2⟩ := h.q
  refine ⟨q1, ?_⟩
  rcases q2 with q2 | ⟨g, off, cur, a1, a2, a3, a4, a5, a6, a7, b1, b2, b3, b4⟩
  · exact Or.inl q2
  · exact Or.inr ⟨g, off, cur, a1, a2, n1 a3 b3, a4, a5, a6, a7, b1, b2, b3, b4⟩

theorem SoloM.setH {w : World} {base : Nat} {X : SLoc} {S : So} (h : SoloM w base X S) (k : Nat) (v : Int) : SoloM (w.setCell ⟨X.gh, k, none⟩ (.int .i64 v)) base X { S with how := S.how.set k v } := by
  obtain ⟨d1, d2, d3, d4, d5, d6⟩ := h.dis
  have n1 : ∀ {g A t}, Row w g A t → g ≠ X.gh → Row (w.setCell ⟨X.gh, k, none⟩ (.int .i64 v)) g A t := fun hr ht => hr.setCellOther _ _ ht
  have n2 : ∀ {g A t}, Row w g A t → t ≠ 3 → Row (w.setCell ⟨X.gh, k, none⟩ (.int .i64 v)) g A t := fun hr ht => hr.setCellOther _ _ (fun e => by subst e; exact ht (row_type hr h.hx))
  have own : Row (w.setCell ⟨X.gh, k, none⟩ (.int .i64 v)) X.gh ((S.how.set k v).map (Value.int .i64)) 3 := by
    rw [List.map_set]; exact h.hx.setCell k _
  refine ⟨n2 h.row (by decide), h.bs, owns_same h.log fun g hg => Below.heap_setCell _ _ _ _ (fun e => by subst e; exact own_ne h.log h.hx (by decide) hg), h.ll, owns_same h.evs fun g hg => Below.heap_setCell _ _ _ _ (fun e => by subst e; exact own_ne h.evs h.hx (by decide) hg), h.el, n1 h.nx d3, h.nl, h.nb, n1 h.fx d5, h.fl, h.fb, n1 h.bx d6, h.bl, h.bb, own, by simp [h.hl], h.hb, h.dis, ?_⟩
  obtain ⟨q1, q2⟩ := h.q
  refine ⟨q1, ?_⟩
  rcases q2 with q2 | ⟨g, off, cur, a1, a2, a3, a4, a5, a6, a7, b1, b2, b3, b4⟩
  · exact Or.inl q2
  · exact Or.inr ⟨g, off, cur, a1, a2, n1 a3 b4, a4, a5, a6, a7, b1, b2, b3, b4⟩

/-- Behind an append to the events, and the store. -/
theorem SoloM.growE {X0 w1 : World} {base gg cap : Nat} {X : SLoc} {S : So} {e : Ev} (h : SoloM X0 base X S) (hbase : base ≤ X0.heap.size) (hgrow : X0.grownBy w1 (Value.slice X.ea X.el X.ec).ownBlock)
    (hown : w1.ownsRow base 58 6 (.slice (some ⟨gg, 0, none⟩) (S.evs.length + 1) cap) (S.evs.length + 1) (evsL S.evs ++ evL e)) :
    SoloM (w1.setCell ⟨X.gs, 3, none⟩ (.slice (some ⟨gg, 0, none⟩) (S.evs.length + 1) cap)) base { X with ea := some ⟨gg, 0, none⟩, el := S.evs.length + 1, ec := cap } { S with evs := S.evs ++ [e] } ∧ Below base X0 (w1.setCell ⟨X.gs, 3, none⟩ (.slice (some ⟨gg, 0, none⟩) (S.evs.length + 1) cap)) ∧ KeepP X0 (w1.setCell ⟨X.gs, 3, none⟩ (.slice (some ⟨gg, 0, none⟩) (S.evs.length + 1) cap)) := by
  have n0 : ∀ {g A t}, Row X0 g A t → t ≠ 58 → Row w1 g A t := fun hr ht => by
    unfold Row
    rw [hgrow.block _ hr.lt (fun he => own_ne h.evs hr ht he.symm)]
    exact hr
  have r1 := n0 h.row (by decide)
  have n1 : ∀ {g A t}, Row X0 g A t → t ≠ 58 → t ≠ 126 → Row (w1.setCell ⟨X.gs, 3, none⟩ (.slice (some ⟨gg, 0, none⟩) (S.evs.length + 1) cap)) g A t := fun hr ht hs =>
    (n0 hr ht).setCellOther _ _ (fun e => by subst e; exact hs (row_type (n0 hr ht) r1))
  have lo1 : w1.ownsRow base 132 9 (.slice X.la X.ll X.lc) S.log.length (logL S.log.reverse) :=
    owns_same h.log fun g hg => hgrow.block g (owns_lt h.log g hg).1 (fun he => owns_apart h.log h.evs (by decide) g hg he.symm)
  refine ⟨⟨r1.setCell 3 _, h.bs, ?_, h.ll, ?_, by simp, n1 h.nx (by decide) (by decide), h.nl, h.nb, n1 h.fx (by decide) (by decide), h.fl, h.fb, n1 h.bx (by decide) (by decide), h.bl, h.bb, n1 h.hx (by decide) (by decide), h.hl, h.hb, h.dis, ?_⟩, ?_, fun g A hr => n1 hr (by decide) (by decide)⟩
  · refine owns_same lo1 fun g hg => Below.heap_setCell _ _ _ _ ?_
    intro he
    subst he
    exact own_ne lo1 r1 (by decide) hg
  · have hs : (S.evs ++ [e]).length = S.evs.length + 1 := by simp
    have hL : evsL (S.evs ++ [e]) = evsL S.evs ++ evL e := by simp [evsL]
    show World.ownsRow _ base 58 6 _ (S.evs ++ [e]).length (evsL (S.evs ++ [e]))
    rw [hs, hL]
    refine owns_same hown fun g hg => Below.heap_setCell _ _ _ _ ?_
    intro he
    subst he
    exact own_ne hown r1 (by decide) hg
  · exact h.q.same fun g A hr => n1 hr (by decide) (by decide)
  · exact (below_grown (Below.refl base X0) hbase hgrow (fun g hg => (owns_lt h.evs g hg).2)).setCell h.bs _


/-- The first that waits waits no longer. -/
theorem SoloM.pop {w : World} {base : Nat} {X : SLoc} {S : So} {k : Int} {q : List Int} {qg qoff : Nat} {qcur : List Value} (h : SoloM w base X S) (hq : S.queue = k :: q) (a2 : base ≤ qg) (a3 : Row w qg qcur 3) (a4 : X.ql ≤ X.qc) (a5 : X.qc ≤ maxLen) (a6 : qoff + X.qc ≤ qcur.length)
    (a7 : ∀ i, i < X.ql → qcur[qoff + i]? = some (.int .i64 (S.queue.getD i 0))) (b : qg ≠ X.gn ∧ qg ≠ X.gf ∧ qg ≠ X.gb ∧ qg ≠ X.gh) (off' cap' m : Nat) (hm : m = q.length) (hc : (X.qc = 1 ∧ off' = qoff ∧ cap' = 0) ∨ (off' = qoff + 1 ∧ cap' = X.qc - 1)) :
    SoloM (w.setCell ⟨X.gs, 8, none⟩ (.slice (some ⟨qg, off', none⟩) m cap')) base { X with qa := some ⟨qg, off', none⟩, ql := m, qc := cap' } { S with queue := q } ∧ Below base w (w.setCell ⟨X.gs, 8, none⟩ (.slice (some ⟨qg, off', none⟩) m cap')) ∧ KeepP w (w.setCell ⟨X.gs, 8, none⟩ (.slice (some ⟨qg, off', none⟩) m cap')) := by
  subst hm
  have n1 : ∀ {g A t}, Row w g A t → t ≠ 126 → Row (w.setCell ⟨X.gs, 8, none⟩ (.slice (some ⟨qg, off', none⟩) q.length cap')) g A t := fun hr ht =>
    hr.setCellOther _ _ (fun e => by subst e; exact ht (row_type hr h.row))
  have ql : X.ql = q.length + 1 := by rw [h.q.1, hq]; rfl
  refine ⟨⟨h.row.setCell 8 _, h.bs, owns_same h.log fun g hg => Below.heap_setCell _ _ _ _ (fun e => by subst e; exact own_ne h.log h.row (by decide) hg), h.ll, owns_same h.evs fun g hg => Below.heap_setCell _ _ _ _ (fun e => by subst e; exact own_ne h.evs h.row (by decide) hg), h.el, n1 h.nx (by decide), h.nl, h.nb, n1 h.fx (by decide), h.fl, h.fb, n1 h.bx (by decide), h.bl, h.bb, n1 h.hx (by decide), h.hl, h.hb, h.dis, ⟨rfl, Or.inr ⟨qg, off', qcur, rfl, a2, n1 a3 (by decide), ?_, ?_, ?_, ?_, b.1, b.2.1, b.2.2.1, b.2.2.2⟩⟩⟩, (Below.refl base w).setCell h.bs _, KeepP.setCell h.row (by decide) _ _⟩
  · show q.length ≤ cap'
    omega
  · show cap' ≤ maxLen
    omega
  · show off' + cap' ≤ qcur.length
    omega
  · intro i hi
    have hi2 : i < q.length := hi
    show qcur[off' + i]? = some (.int .i64 (q.getD i 0))
    have := a7 (i + 1) (by omega)
    rw [hq] at this
    rcases hc with hc | hc
    · omega
    · rw [hc.1, show qoff + 1 + i = qoff + (i + 1) by omega, this]
      rfl
end Go.Proofs.YtehheaedbnfidaaGreat
