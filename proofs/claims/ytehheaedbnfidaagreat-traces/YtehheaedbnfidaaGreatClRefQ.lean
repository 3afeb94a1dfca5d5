/-
  One domain's play: one more that waits.
-/
import Derived.Test.YtehheaedbnfidaaGreatClRefSB
import Derived.Test.YtehheaedbnfidaaGreatClPackA
import Derived.ArgAppend
namespace Go.Proofs.YtehheaedbnfidaaGreat
open Go.RowKit

/-- The list of those that wait is laid anew. -/
theorem SoloM.storeQ {w : World} {base : Nat} {X : SLoc} {S : So} (h : SoloM w base X S) (q' : List Int) (qa' : Option Addr) (ql' qc' : Nat) (hq : QAt w base { X with qa := qa', ql := ql', qc := qc' } q') :
    SoloM (w.setCell ⟨X.gs, 8, none⟩ (.slice qa' ql' qc')) base { X with qa := qa', ql := ql', qc := qc' } { S with queue := q' } ∧ Below base w (w.setCell ⟨X.gs, 8, none⟩ (.slice qa' ql' qc')) ∧ KeepP w (w.setCell ⟨X.gs, 8, none⟩ (.slice qa' ql' qc')) := by
  have n1 : ∀ {g A t}, Row w g A t → t ≠ 126 → Row (w.setCell ⟨X.gs, 8, none⟩ (.slice qa' ql' qc')) g A t := fun hr ht =>
    hr.setCellOther _ _ (fun e => by subst e; exact ht (row_type hr h.row))
  exact ⟨⟨h.row.setCell 8 _, h.bs, owns_same h.log fun g hg => Below.heap_setCell _ _ _ _ (fun e => by subst e; exact own_ne h.log h.row (by decide) hg), h.ll, owns_same h.evs fun g hg => Below.heap_setCell _ _ _ _ (fun e => by subst e; exact own_ne h.evs h.row (by decide) hg), h.el, n1 h.nx (by decide), h.nl, h.nb, n1 h.fx (by decide), h.fl, h.fb, n1 h.bx (by decide), h.bl, h.bb, n1 h.hx (by decide), h.hl, h.hb, h.dis, hq.same fun g A hr => n1 hr (by decide)⟩, (Below.refl base w).setCell h.bs _, KeepP.setCell h.row (by decide) _ _⟩

/-- There is room: one more is written behind the others. -/
theorem SoloM.pushRoom {w : World} {base : Nat} {X : SLoc} {S : So} {g off : Nat} {cur : List Value} (h : SoloM w base X S) (k : Int) (e1 : X.qa = some ⟨g, off, none⟩) (a2 : base ≤ g) (a3 : Row w g cur 3) (a4 : X.ql < X.qc) (a5 : X.qc ≤ maxLen) (a6 : off + X.qc ≤ cur.length)
    (a7 : ∀ i, i < X.ql → cur[off + i]? = some (.int .i64 (S.queue.getD i 0))) (b1 : g ≠ X.gn) (b2 : g ≠ X.gf) (b3 : g ≠ X.gb) (b4 : g ≠ X.gh) :
    SoloM ((w.setCell ⟨g, off + X.ql, none⟩ (.int .i64 k)).setCell ⟨X.gs, 8, none⟩ (.slice (some ⟨g, off, none⟩) (X.ql + 1) X.qc)) base { X with qa := some ⟨g, off, none⟩, ql := X.ql + 1, qc := X.qc } { S with queue := S.queue ++ [k] }
    ∧ Below base w ((w.setCell ⟨g, off + X.ql, none⟩ (.int .i64 k)).setCell ⟨X.gs, 8, none⟩ (.slice (some ⟨g, off, none⟩) (X.ql + 1) X.qc)) := by
  have n1 : ∀ {g' A t}, Row w g' A t → g' ≠ g → Row (w.setCell ⟨g, off + X.ql, none⟩ (.int .i64 k)) g' A t := fun hr ht => hr.setCellOther _ _ ht
  have n2 : ∀ {g' A t}, Row w g' A t → t ≠ 3 → Row (w.setCell ⟨g, off + X.ql, none⟩ (.int .i64 k)) g' A t := fun hr ht => hr.setCellOther _ _ (fun e => by subst e; exact ht (row_type hr a3))
  have own : Row (w.setCell ⟨g, off + X.ql, none⟩ (.int .i64 k)) g (cur.set (off + X.ql) (.int .i64 k)) 3 := a3.setCell _ _
  have h1 : SoloM (w.setCell ⟨g, off + X.ql, none⟩ (.int .i64 k)) base X S := by
    refine ⟨n2 h.row (by decide), h.bs, owns_same h.log fun g hg => Below.heap_setCell _ _ _ _ (fun e => by subst e; exact own_ne h.log a3 (by decide) hg), h.ll, owns_same h.evs fun g hg => Below.heap_setCell _ _ _ _ (fun e => by subst e; exact own_ne h.evs a3 (by decide) hg), h.el, n1 h.nx (Ne.symm b1), h.nl, h.nb, n1 h.fx (Ne.symm b2), h.fl, h.fb, n1 h.bx (Ne.symm b3), h.bl, h.bb, n1 h.hx (Ne.symm b4), h.hl, h.hb, h.dis, h.q.1, Or.inr ⟨g, off, _, e1, a2, own, by omega, a5, by rw [List.length_set]; exact a6, fun i hi => ?_, b1, b2, b3, b4⟩⟩
    rw [List.getElem?_set_ne (by omega)]
    exact a7 i hi
  have hl := h.q.1
  have hQ : QAt (w.setCell ⟨g, off + X.ql, none⟩ (.int .i64 k)) base { X with qa := some ⟨g, off, none⟩, ql := X.ql + 1, qc := X.qc } (S.queue ++ [k]) := by
    refine ⟨by show X.ql + 1 = _; simp [hl], Or.inr ⟨g, off, _, rfl, a2, own, by show X.ql + 1 ≤ X.qc; omega, a5, by rw [List.length_set]; exact a6, fun i hi => ?_, b1, b2, b3, b4⟩⟩
    have hi2 : i < X.ql + 1 := hi
    by_cases hi3 : i < X.ql
    · rw [List.getElem?_set_ne (by omega), a7 i hi3]
      simp only [List.getD_eq_getElem?_getD]
      rw [List.getElem?_append_left (by omega)]
    · have ei : i = X.ql := by omega
      subst ei
      rw [List.getElem?_set_self (by omega)]
      simp only [List.getD_eq_getElem?_getD]
      rw [hl, List.getElem?_append_right (Nat.le_refl _)]
      simp
  obtain ⟨r1, r2, _⟩ := h1.storeQ _ _ _ _ hQ
  exact ⟨r1, ((Below.refl base w).setCell (p := ⟨g, off + X.ql, none⟩) a2 _).trans r2⟩

/-- There is none: all are copied into a new block. -/
theorem SoloM.pushGrow {w w1 : World} {base gg cap : Nat} {X : SLoc} {S : So} (h : SoloM w base X S) (hb : base ≤ w.heap.size) (k : Int) (hg : w.grownBy w1 none) (ho : w1.ownsRow w.heap.size 3 1 (.slice (some ⟨gg, 0, none⟩) (X.ql + 1) cap) (X.ql + 1) (S.queue.map (Value.int .i64) ++ [.int .i64 k])) :
    SoloM (w1.setCell ⟨X.gs, 8, none⟩ (.slice (some ⟨gg, 0, none⟩) (X.ql + 1) cap)) base { X with qa := some ⟨gg, 0, none⟩, ql := X.ql + 1, qc := cap } { S with queue := S.queue ++ [k] }
    ∧ Below base w (w1.setCell ⟨X.gs, 8, none⟩ (.slice (some ⟨gg, 0, none⟩) (X.ql + 1) cap)) := by
  have hB : Below w.heap.size w w1 := below_grown (Below.refl _ w) (Nat.le_refl _) hg (fun g hg => by simp at hg)
  have h1 := h.below hB (Nat.le_refl _)
  have hl := h.q.1
  have hgl := owns_lt ho gg rfl
  have hge : w.heap.size ≤ gg := hgl.2
  have l1 := h.nx.lt
  have l2 := h.fx.lt
  have l3 := h.bx.lt
  have l4 := h.hx.lt
  obtain ⟨h1', h2⟩ := ho
  rcases h2 with ⟨h3, _⟩ | ⟨g', cap', cur, hv, _, hh, hn', hm, hs, ht⟩
  · cases h3
  · simp only [Value.slice.injEq, Option.some.injEq, Addr.mk.injEq] at hv
    obtain ⟨⟨rfl, _⟩, _, rfl⟩ := hv
    have hr : Row w1 gg cur.toList 3 := by unfold Row; simpa using hh
    have hQ : QAt w1 base { X with qa := some ⟨gg, 0, none⟩, ql := X.ql + 1, qc := cap } (S.queue ++ [k]) := by
      refine ⟨by show X.ql + 1 = _; simp [hl], Or.inr ⟨gg, 0, cur.toList, rfl, Nat.le_trans hb hge, hr, hn', hm, by simp [hs], fun i hi => ?_, by show gg ≠ X.gn; omega, by show gg ≠ X.gf; omega, by show gg ≠ X.gb; omega, by show gg ≠ X.gh; omega⟩⟩
      have hi2 : i < X.ql + 1 := hi
      have hlt : i < (S.queue ++ [k]).length := by simp; omega
      have h4 : (cur.toList.take ((X.ql + 1) * 1))[i]? = some (.int .i64 ((S.queue ++ [k]).getD i 0)) := by
        rw [ht, show S.queue.map (Value.int .i64) ++ [.int .i64 k] = (S.queue ++ [k]).map (Value.int .i64) by simp, List.getElem?_map, List.getD_eq_getElem?_getD, List.getElem?_eq_getElem hlt]
        rfl
      rw [List.getElem?_take, if_pos (by omega)] at h4
      rw [Nat.zero_add]
      exact h4
    obtain ⟨r1, r2, _⟩ := h1.storeQ _ _ _ _ hQ
    exact ⟨r1, (hB.mono hb).trans r2⟩

/-- append to the list of those that wait, there be room or not. -/
theorem wpList_push {ops : Array Oper} {rest : List Oper} {o : Oper} {a : Act} {Q : Exit → Act → World → Prop} (W : World) (base : Nat) (X : SLoc) (S : So) (k : Int) (h : SoloM W base X S) (hl : X.ql ≤ 3)
    (hg : o.guard = none) (s x : Operand) (hop : o.op = Op.call { callee := Callee.builtin Builtin.append, args := #[s, x], argTypes := #[25, 25] })
    (hs : a.eval s = .slice X.qa X.ql X.qc) (ad : Addr) (hx : a.eval x = .slice (some ad) 1 1) (hc : ∀ j u, [Value.int .i64 k][j]? = some u → W.cell? (ad.add j) = some u)
    (hK : ∀ qa qc w', w'.cell? ⟨X.gs, 8, none⟩ = some (.slice X.qa X.ql X.qc) → w'.frozen? ⟨X.gs, 8, none⟩ = false → SoloM (w'.setCell ⟨X.gs, 8, none⟩ (.slice qa (X.ql + 1) qc)) base { X with qa := qa, ql := X.ql + 1, qc := qc } { S with queue := S.queue ++ [k] } → Below base W (w'.setCell ⟨X.gs, 8, none⟩ (.slice qa (X.ql + 1) qc)) → wpList Tryz.prog ops Q rest (a.put o.dst (.slice qa (X.ql + 1) qc)) w') :
    wpList Tryz.prog ops Q (o :: rest) a W := by
  obtain ⟨i0, hi0, hz0, hz1, hz2⟩ := info_parts Tryz.infoInt
  have hbase : base ≤ W.heap.size := by have := h.bs; have := h.row.lt; omega
  obtain ⟨q1, q2⟩ := h.q
  by_cases a4 : X.ql + 1 ≤ X.qc
  · rcases q2 with ⟨_, q2, _⟩ | ⟨gq, off, cur, q3, q4, q5, q6, q7, q9, q10, b1, b2, b3, b4⟩
    · omega
    have hgg : X.gs ≠ gq := fun e => by
      rw [← e] at q5
      exact absurd (row_type h.row q5) (by decide)
    have RR := h.row.setCellOther (off + X.ql) (.int .i64 k) hgg
    have hsp : ∀ j, j < [Value.int .i64 k].length → (W.cell? ⟨gq, off + X.ql * 1 + j, none⟩).isSome = true ∧ W.frozen? ⟨gq, off + X.ql * 1 + j, none⟩ = false := fun j hj => by
      have ej : j = 0 := by simpa using hj
      subst ej
      refine ⟨?_, q5.frozen _⟩
      rw [q5.cell, List.getElem?_eq_getElem (show off + X.ql * 1 + 0 < cur.length by omega)]
      rfl
    rw [q3] at hs
    have hrun := run_append_room_cells (P := Tryz.prog) W 25 o.type 3 i0 Tryz.underlying25 hi0 gq off X.ql X.qc ad 1 1 [.int .i64 k] (by rw [hz1]; rfl) hc (by simp [Value.oneCell']) a4 (fun j hj => by rw [hz1]; exact (hsp j hj).1) (fun j hj => by rw [hz1]; exact (hsp j hj).2)
    obtain ⟨p1, p2⟩ := h.pushRoom k q3 q4 q5 (by omega) q7 q9 q10 b1 b2 b3 b4
    refine wpList_plain hg fun K hK' => ?_
    unfold Oper.wp
    simp [execOp, hop, resolve, invoke, builtin, hs, hx, hrun, Result.andThen]
    rw [hz1, Nat.mul_one]
    refine hK' _ _ (hK (some ⟨gq, off, none⟩) X.qc _ ?_ ?_ p1 p2)
    · exact RR.cell 8
    · exact RR.frozen 8
  · have q1' : X.ql = S.queue.length := q1
    have hnone : X.qa = none → X.ql = 0 ∧ X.qc = 0 := fun e => by
      rcases q2 with ⟨_, q2, q3⟩ | ⟨gq, off, cur, q3, _⟩
      · exact ⟨by rw [q1', q3]; rfl, q2⟩
      · rw [e] at q3; cases q3
    have hlo : (S.queue.map (Value.int .i64)).length = X.ql * 1 := by rw [List.length_map, q1']; omega
    have holds : ∀ b, X.qa = some b → ∀ j u, (S.queue.map (Value.int .i64))[j]? = some u → W.cell? (b.add j) = some u := fun b eb j u hj => by
      rcases q2 with ⟨q3, _⟩ | ⟨gq, off, cur, q3, q4, q5, q6, q7, q9, q10, _⟩
      · rw [eb] at q3; cases q3
      · rw [eb] at q3
        simp only [Option.some.injEq] at q3
        subst q3
        have hjl : j < S.queue.length := by
          have := (List.getElem?_eq_some_iff.1 hj).1
          simpa using this
        rw [add_plain', q5.cell, q10 j (by rw [q1']; exact hjl)]
        rw [List.getElem?_map, List.getElem?_eq_getElem hjl] at hj
        rw [← hj, List.getD_eq_getElem?_getD, List.getElem?_eq_getElem hjl]
        rfl
    refine wpList_append_grows W hg s x 25 hop 3 i0 (.int .i64 0) 1 8 Tryz.underlying25 hi0 hz0 hz1 hz2 rfl (by decide) X.qa X.ql X.qc (S.queue.map (Value.int .i64)) hs hnone hlo holds ad 1 1 [.int .i64 k] hx rfl hc (by simp [Value.oneCell']) (by omega) (by unfold maxLen; omega) (by omega) (fun v' w' hown hgrow => ?_)
    obtain ⟨gg, cap, rfl, hgb, hgl⟩ := World.ownsRow.form hown (by omega)
    have RR := h.row.same (hgrow.block X.gs h.row.lt (by simp))
    obtain ⟨p1, p2⟩ := h.pushGrow hbase k hgrow hown
    exact hK (some ⟨gg, 0, none⟩) cap w' (RR.cell 8) (RR.frozen 8) p1 p2
end Go.Proofs.YtehheaedbnfidaaGreat
