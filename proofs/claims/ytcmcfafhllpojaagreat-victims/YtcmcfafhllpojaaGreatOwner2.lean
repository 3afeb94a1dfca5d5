/-
  The walk of wallslaw's owner: the other kinds.
-/
import Derived.Test.YtcmcfafhllpojaaGreatOwner
namespace Go.Proofs.YtcmcfafhllpojaaGreat
open Go.RowKit

theorem WSt.fresh {w : World} {gw base : Nat} {o : Own} {m e p b : Value} {ts : List Int} {os : List (Int × Int × Int)} (h : WSt w gw base o m e p b ts os) :
    WSt (w.setCell ⟨gw, 1, none⟩ (.slice none 0 0)) gw base { o with ta := none, tl := 0, tc := 0 } m e p b [] os := by
  refine ⟨h.row.setCell 1 _, h.hb, World.ownsRow_nil _ _ _ _, ?_⟩
  refine owns_same h.ops fun g hg => Below.heap_setCell _ _ _ _ ?_
  intro he
  subst he
  exact own_ne h.ops h.row (by decide) hg

theorem WSt.none {w : World} {gw base : Nat} {o : Own} {m e p b : Value} {ts : List Int} {os : List (Int × Int × Int)} (h : WSt w gw base o m e p b ts os) :
    WSt (w.setCell ⟨gw, 2, none⟩ (.slice none 0 0)) gw base { o with oa := none, ol := 0, oc := 0 } m e p b ts [] := by
  refine ⟨h.row.setCell 2 _, h.hb, ?_, World.ownsRow_nil _ _ _ _⟩
  refine owns_same h.tou fun g hg => Below.heap_setCell _ _ _ _ ?_
  intro he
  subst he
  exact own_ne h.tou h.row (by decide) hg

set_option maxRecDepth 100000 in
set_option maxHeartbeats 1600000 in
theorem owner_fresh (gw base : Nat) (o : Own) (m e p b : Value) (ts : List Int) (os : List (Int × Int × Int)) (st : St) (w : World) (h : WSt w gw base o m e p b ts os) (hk : st.k = 2) :
    Calls Tryz.prog 42 #[.pointer (some ⟨gw, 0, none⟩), opV st] w fun x w' => x = .returned (.bool true) ∧ ∃ o', o'.ca = o.ca ∧ o'.cl = o.cl ∧ o'.cc = o.cc ∧ WSt w' gw base o' m e p b [] os ∧ Below base w w' ∧ KeepO w w' := by
  obtain ⟨k, a, bb, cc, dd⟩ := st
  simp only at hk
  subst hk
  have hb := h.hb
  have lg := h.row.lt
  have bX : Below w.heap.size w (w.alloc (.cells (opA ⟨2, a, bb, cc, dd⟩) 61)) := (Below.refl _ _).alloc (Nat.le_refl _) _
  have hX := h.below bX rfl
  have c1 : w.cell? ⟨gw, 1, none⟩ = some (.slice o.ta o.tl o.tc) := by rw [h.row.cell]; rfl
  have f1 : w.frozen? ⟨gw, 1, none⟩ = false := h.row.frozen 1
  go_enter Tryz.func42, Tryz.ntmps42
  go_wp2
  go_ret
  have hF := hX.fresh
  rw [World.setCell_alloc_past _ _ _ _ lg] at hF
  exact ⟨rfl, { o with ta := Option.none, tl := 0, tc := 0 }, rfl, rfl, rfl, hF, ((Below.refl _ _).setCell hb _).alloc (by simp [World.setCell]; omega) _, (KeepO.setCell h.row (by decide) _ _).trans (KeepO.below ((Below.refl _ _).alloc (Nat.le_refl _) _) rfl)⟩

set_option maxRecDepth 100000 in
set_option maxHeartbeats 1600000 in
theorem owner_none (gw base : Nat) (o : Own) (m e p b : Value) (ts : List Int) (os : List (Int × Int × Int)) (st : St) (w : World) (h : WSt w gw base o m e p b ts os) (hk : st.k = 4) :
    Calls Tryz.prog 42 #[.pointer (some ⟨gw, 0, none⟩), opV st] w fun x w' => x = .returned (.bool true) ∧ ∃ o', o'.ca = o.ca ∧ o'.cl = o.cl ∧ o'.cc = o.cc ∧ WSt w' gw base o' m e p b ts [] ∧ Below base w w' ∧ KeepO w w' := by
  obtain ⟨k, a, bb, cc, dd⟩ := st
  simp only at hk
  subst hk
  have hb := h.hb
  have lg := h.row.lt
  have bX : Below w.heap.size w (w.alloc (.cells (opA ⟨4, a, bb, cc, dd⟩) 61)) := (Below.refl _ _).alloc (Nat.le_refl _) _
  have hX := h.below bX rfl
  have c1 : w.cell? ⟨gw, 2, none⟩ = some (.slice o.oa o.ol o.oc) := by rw [h.row.cell]; rfl
  have f1 : w.frozen? ⟨gw, 2, none⟩ = false := h.row.frozen 2
  go_enter Tryz.func42, Tryz.ntmps42
  go_wp2
  go_ret
  have hF := hX.none
  rw [World.setCell_alloc_past _ _ _ _ lg] at hF
  exact ⟨rfl, { o with oa := Option.none, ol := 0, oc := 0 }, rfl, rfl, rfl, hF, ((Below.refl _ _).setCell hb _).alloc (by simp [World.setCell]; omega) _, (KeepO.setCell h.row (by decide) _ _).trans (KeepO.below ((Below.refl _ _).alloc (Nat.le_refl _) _) rfl)⟩

set_option maxRecDepth 100000 in
set_option maxHeartbeats 1600000 in
theorem owner_other (gw : Nat) (st : St) (w : World) (hk : ¬ (1 ≤ st.k ∧ st.k ≤ 4)) :
    Calls Tryz.prog 42 #[.pointer (some ⟨gw, 0, none⟩), opV st] w fun x w' => x = .returned (.bool false) ∧ Below w.heap.size w w' := by
  have k1 : (st.k == 1) = false := by simp; omega
  have k2 : (st.k == 2) = false := by simp; omega
  have k3 : (st.k == 3) = false := by simp; omega
  have k4 : (st.k == 4) = false := by simp; omega
  clear hk
  go_enter Tryz.func42, Tryz.ntmps42
  go_wp2
  go_ret
  exact ⟨rfl, (Below.refl _ _).alloc (Nat.le_refl _) _⟩

theorem WSt.op {W X w1 : World} {gw base gg cap : Nat} {o : Own} {m e p b : Value} {ts : List Int} {os : List (Int × Int × Int)} {a b2 c : Int}
    (h : WSt X gw base o m e p b ts os) (hgrow : X.grownBy w1 (Value.slice o.oa o.ol o.oc).ownBlock) (hbX : Below base W X)
    (hown : w1.ownsRow base 113 3 (.slice (some ⟨gg, 0, Option.none⟩) (os.length + 1) cap) (os.length + 1) (opsL os ++ [.int .i64 a, .int .i64 b2, .int .i64 c])) :
    WSt (w1.setCell ⟨gw, 2, Option.none⟩ (.slice (some ⟨gg, 0, Option.none⟩) (os.length + 1) cap)) gw base { o with oa := some ⟨gg, 0, Option.none⟩, ol := os.length + 1, oc := cap } m e p b ts (os ++ [(a, b2, c)]) ∧ Below base W (w1.setCell ⟨gw, 2, Option.none⟩ (.slice (some ⟨gg, 0, Option.none⟩) (os.length + 1) cap)) ∧ KeepO X (w1.setCell ⟨gw, 2, Option.none⟩ (.slice (some ⟨gg, 0, Option.none⟩) (os.length + 1) cap)) := by
  have ag := own_ne h.ops h.row (by decide)
  have hbg := h.hb
  have lg := h.row.lt
  have r1 : Row w1 gw (ownL o m e p b) 59 := by
    unfold Row
    rw [hgrow.block gw lg (Ne.symm ag)]
    exact h.row
  have tou1 : w1.ownsRow base 3 1 (.slice o.ta o.tl o.tc) ts.length (ts.map (Value.int .i64)) :=
    owns_same h.tou fun g hg => hgrow.block g (owns_lt h.tou g hg).1 (fun he => owns_apart h.tou h.ops (by decide) g hg he.symm)
  refine ⟨⟨r1.setCell 2 _, hbg, ?_, ?_⟩, ?_, KeepO.trans (KeepO.grown h.ops (by decide) hgrow) (KeepO.setCell r1 (by decide) _ _)⟩
  · refine owns_same tou1 fun g hg => Below.heap_setCell _ _ _ _ ?_
    intro he
    subst he
    exact own_ne tou1 r1 (by decide) hg
  · have hs : (os ++ [(a, b2, c)]).length = os.length + 1 := by simp
    have hl : opsL (os ++ [(a, b2, c)]) = opsL os ++ [.int .i64 a, .int .i64 b2, .int .i64 c] := by simp [opsL]
    rw [hs, hl]
    refine owns_same hown fun g hg => Below.heap_setCell _ _ _ _ ?_
    intro he
    subst he
    exact own_ne hown r1 (by decide) hg
  · refine (hbX.trans ⟨hgrow.os, hgrow.tape, hgrow.output, hgrow.size, fun k hk => hgrow.block k (by omega) ?_⟩).setCell hbg _
    intro he
    have := owns_lt h.ops k he.symm
    omega
end Go.Proofs.YtcmcfafhllpojaaGreat
