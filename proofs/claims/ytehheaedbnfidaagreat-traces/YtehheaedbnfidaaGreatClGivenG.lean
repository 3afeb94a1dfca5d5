/-
  The walk of wallslaw's given: Give.
-/
import Derived.Test.YtehheaedbnfidaaGreatClPackBK
import Derived.Test.YtehheaedbnfidaaGreatClPackBH
import Derived.Deep.RegionHeld3
namespace Go.Proofs.YtehheaedbnfidaaGreat
open Go.RowKit

/-- What lentOps gives of a program. -/
def LentPr (w : World) (sa : Option Addr) (os : List OpT) (va : Option Addr) (vl vc g : Nat) : Prop :=
  (sa = none ∧ os = [] ∧ va = none ∧ vl = 0 ∧ vc = 0) ∨ (sa ≠ none ∧ va = some ⟨g, 0, none⟩ ∧ vl = os.length ∧ vc = os.length + 8 ∧ Row w g (opsL (lentO os 8)) 69)
theorem LentPr.same {w w' : World} {sa : Option Addr} {os : List OpT} {va : Option Addr} {vl vc g : Nat} (h : LentPr w sa os va vl vc g) (hg : g < w.heap.size → w'.heap[g]? = w.heap[g]?) : LentPr w' sa os va vl vc g := by
  rcases h with h | ⟨h1, h2, h3, h4, h5⟩
  · exact Or.inl h
  · exact Or.inr ⟨h1, h2, h3, h4, h5.same (hg h5.lt)⟩
theorem LentPr.ops {w : World} {sa : Option Addr} {os : List OpT} {va : Option Addr} {vl vc g : Nat} (h : LentPr w sa os va vl vc g) (hr : os.length * 24 ≤ 140737488351232) : OpsAt w va vl vc os := by
  rcases h with ⟨_, rfl, rfl, rfl, rfl⟩ | ⟨_, rfl, rfl, rfl, h5⟩
  · exact ⟨rfl, Nat.le_refl _, by unfold maxLen; omega, fun i hi => by omega⟩
  · refine ⟨rfl, by omega, by unfold maxLen; omega, fun i hi => ⟨g, 0, rfl, ?_⟩⟩
    obtain ⟨g1, g2, g3⟩ := opsL_at (os := lentO os 8) (i := i) (by rw [lentO_len os 8 (Nat.le_refl _)]; omega)
    rw [lentO_at hi] at g1 g2 g3
    rw [Nat.zero_add]
    exact ⟨(h5.cell _).trans g1, (h5.cell _).trans g2, (h5.cell _).trans g3⟩
theorem lentOps_any (sa : Option Addr) (len cap : Nat) (os : List OpT) (w : World) (h : OpsAt w sa len cap os) (hn : sa = none → len = 0 ∧ cap = 0) (hr : os.length * 24 ≤ 140737488351232) :
    Calls Tryz.prog 52 #[.slice sa len cap] w fun e w' => ∃ va vl vc, e = .returned (.slice va vl vc) ∧ LentPr w' sa os va vl vc w.heap.size ∧ Below w.heap.size w w' := by
  have hl := h.hlen
  cases sa with
  | none =>
    obtain ⟨rfl, rfl⟩ := hn rfl
    refine (lentOps_none w).mono ?_
    rintro e w' ⟨rfl, rfl⟩
    exact ⟨none, 0, 0, rfl, Or.inl ⟨rfl, List.eq_nil_of_length_eq_zero hl, rfl, rfl, rfl⟩, Below.refl _ _⟩
  | some a =>
    refine (lentOps_some a len cap os w h (by rw [← hl]; exact hr)).mono ?_
    rintro e w' ⟨rfl, rfl⟩
    exact ⟨_, _, _, rfl, Or.inr ⟨by simp, rfl, hl.symm, by rw [hl], heap_alloc_new w _⟩, (Below.refl _ _).alloc (Nat.le_refl _) _⟩
theorem wholeOps_any (sa : Option Addr) (len cap : Nat) (os : List OpT) (va : Option Addr) (vl vc g : Nat) (w : World) (h : OpsAt w sa len cap os) (hn : sa = none → len = 0 ∧ cap = 0) (hr : os.length * 24 ≤ 140737488351232) (hl : LentPr w sa os va vl vc g) :
    Calls Tryz.prog 55 #[.slice va vl vc, .slice sa len cap] w fun e w' => e = .returned (.bool true) ∧ Below w.heap.size w w' := by
  have hol := h.hlen
  rcases hl with ⟨rfl, rfl, rfl, rfl, rfl⟩ | ⟨h1, rfl, rfl, rfl, h5⟩
  · obtain ⟨rfl, rfl⟩ := hn rfl
    refine (wholeOps_none none 0 0 w).mono ?_
    rintro e w' ⟨rfl, rfl⟩
    exact ⟨rfl, Below.refl _ _⟩
  · cases sa with
    | none => exact absurd rfl h1
    | some a =>
      rw [hol]
      exact wholeOps_some g a len cap os w h (by rw [← hol]; exact hr) h5
theorem spoilOps_any (sa : Option Addr) (os : List OpT) (va : Option Addr) (vl vc g : Nat) (w : World) (hr : os.length * 24 ≤ 140737488351232) (hl : LentPr w sa os va vl vc g) :
    Calls Tryz.prog 56 #[.slice va vl vc] w fun e w' => e = .returned (.tuple #[]) ∧ Touch (fun b => b = g ∧ va ≠ none) w w' := by
  rcases hl with ⟨_, rfl, rfl, rfl, rfl⟩ | ⟨_, rfl, rfl, rfl, h5⟩
  · refine (spoilOps_none w).mono ?_
    rintro e w' ⟨rfl, rfl⟩
    exact ⟨rfl, Touch.refl _ _⟩
  · refine (spoilOps_some g os.length (os.length + 8) (lentO os 8) w (lentO_len os 8 (Nat.le_refl _)) hr (by omega) (by omega) h5).mono ?_
    rintro e w' ⟨rfl, hT⟩
    exact ⟨rfl, hT.mono (fun b hb => ⟨hb, by simp⟩)⟩

/-- The caller's program. -/
theorem ops_of {w : World} {base ol oc : Nat} {oa : Option Addr} {os : List OpT} (h : w.ownsRow base 69 3 (.slice oa ol oc) os.length (opsL os)) : OpsAt w oa ol oc os ∧ (oa = none → ol = 0 ∧ oc = 0) := by
  rcases h.2 with ⟨hv, hx⟩ | ⟨g, cap, cur, hv, hg, hh, h1, h2, h3⟩
  · simp only [Value.slice.injEq] at hv
    obtain ⟨rfl, rfl, rfl⟩ := hv
    have e : os = [] := by
      by_cases q : os = []
      · exact q
      · have : 0 < os.length := by cases os with
          | nil => exact absurd rfl q
          | cons _ _ => simp
        obtain ⟨g, cap, hv, _, _⟩ := World.ownsRow.form h this
        simp at hv
    subst e
    exact ⟨⟨rfl, Nat.le_refl _, by unfold maxLen; omega, fun i hi => by omega⟩, fun _ => ⟨rfl, rfl⟩⟩
  · simp only [Value.slice.injEq] at hv
    obtain ⟨rfl, rfl, rfl⟩ := hv
    refine ⟨⟨rfl, h1, h2, fun i hi => ⟨g, 0, rfl, ?_⟩⟩, fun q => by cases q⟩
    have hc := owns_cells h (fun i => ((opsL os)[i]?).getD undef) (fun i hi => by
      have : i < (opsL os).length := by rw [opsL_len]; exact hi
      rw [List.getElem?_eq_getElem this]; rfl)
    obtain ⟨g1, g2, g3⟩ := opsL_at (os := os) (i := i) hi
    rw [Nat.zero_add]
    refine ⟨?_, ?_, ?_⟩
    · rw [hc.1.cell (by omega), g1]; rfl
    · rw [hc.1.cell (by omega), g2]; rfl
    · rw [hc.1.cell (by omega), g3]; rfl

theorem MI.tch {W w w' : World} {o : Own} {e p b : Value} {ts : List Int} {os : List (Int × Int × Int)} {zone : Nat → Option Nat} {n : Nat} {X : Nat → XLoc} {m : Nat → Mh} {L : Nat → RLoc} {M : Nat → RDat} {ma : Option Addr} {mc : Nat} {F : Nat → Prop} (h : MI W w o e p b ts os zone n X m L M ma mc)
    (hT : Touch F w w') (hF : ∀ b, F b → ¬ MZ W.heap.size o zone (.slice ma n mc) b) (hB : ∀ b, F b → W.heap.size ≤ b) : MI W w' o e p b ts os zone n X m L M ma mc :=
  ⟨h.ws.keepU (fun b hu => hT.block b (h.ub_lt hu) (fun q => hF b q (Or.inr (Or.inl hu)))), h.ms.keep hT.size (fun b hz => hT.block b (h.ms.zlt b hz).2 (fun q => hF b q (Or.inl hz))), owns_same h.own (fun g hg => hT.block g (owns_lt h.own g hg).1 (fun q => hF g q (Or.inr (Or.inr hg)))), h.zu, h.zm, h.bel.trans (hT.below _ h.bel.size hB)⟩

set_option maxRecDepth 100000 in
set_option maxHeartbeats 3200000 in
theorem given_give (W w : World) (o : Own) (e p b : Value) (ts : List Int) (os : List (Int × Int × Int)) (zone : Nat → Option Nat) (n : Nat) (X : Nat → XLoc) (m : Nat → Mh) (L : Nat → RLoc) (M : Nat → RDat) (ma : Option Addr) (mc : Nat) (h : MI W w o e p b ts os zone n X m L M ma mc) (j : Nat) (hj : j < n) (st : St) (hk : st.k = 12) (hr : os.length * 24 ≤ 140737488351232) :
    Calls Tryz.prog 21 #[.pointer (some ⟨W.heap.size, 0, none⟩), .agg (prA (X j).g (L j).gr), opV st] w fun x w' => x = .returned (.bool true) ∧ After W w w' o e p b ts os zone n ma mc := by
  obtain ⟨k, a, bb, cc, dd⟩ := st
  simp only at hk
  subst hk
  have hb0 : Below w.heap.size w ((w.alloc (.cells (prA (X j).g (L j).gr) 50)).alloc (.cells (opA ⟨12, a, bb, cc, dd⟩) 36)) := ((Below.refl _ _).alloc (Nat.le_refl _) _).alloc (by simp) _
  have G0 := GB.start w (X j).g (L j).gr ⟨12, a, bb, cc, dd⟩
  have hszb : ((w.alloc (.cells (prA (X j).g (L j).gr) 50)).alloc (.cells (opA ⟨12, a, bb, cc, dd⟩) 36)).heap.size = w.heap.size + 2 := by simp
  obtain ⟨wb, hwb⟩ : ∃ wb, (w.alloc (.cells (prA (X j).g (L j).gr) 50)).alloc (.cells (opA ⟨12, a, bb, cc, dd⟩) 36) = wb := ⟨_, rfl⟩
  rw [hwb] at hb0 G0 hszb
  have HWB : Hid _ := hwb
  have HSZ : Hid _ := hszb
  have Hb := h.below hb0
  obtain ⟨hO, hOn⟩ := ops_of Hb.ws.ops
  have hLe := lentOps_any o.oa o.ol o.oc os wb hO hOn hr
  have c2 : wb.cell? ⟨W.heap.size, 2, none⟩ = some (.slice o.oa o.ol o.oc) := by rw [Hb.ws.row.cell]; rfl
  have k0 : wb.cell? ⟨w.heap.size + 1, 0, none⟩ = some (.int .i64 12) := G0.op.cell 0
  have l0 := G0.pr.lt
  have l1 := G0.op.lt
  have lW := Hb.ws.row.lt
  have c2w : w.cell? ⟨W.heap.size, 2, none⟩ = some (.slice o.oa o.ol o.oc) := by rw [h.ws.row.cell]; rfl
  have lWw := h.ws.row.lt
  have nx : ∀ g, w.heap.size ≤ g → ¬ (X j).mine g ∧ ¬ (L j).own g := fun g hg => ⟨fun q => by have := (h.ms.zlt g (by rw [h.ms.zx j g hj q]; simp)).2; omega, fun q => by have := (h.ms.zlt g (by rw [h.ms.zl j g hj q]; simp)).2; omega⟩
  have hz := (h.ms.ref j hj).right
  have hT0 := (h.ms.ref j hj).T0
  obtain ⟨pe, pp⟩ := (h.ms.pair j hj).give hz hT0 bb cc os
  have HPE : Hid _ := pe
  have HPP : Hid _ := pp
  have HH : Hid _ := h
  have HG0 : Hid _ := G0
  have HB0 : Hid _ := hb0
  have HNX : Hid _ := nx
  have HHb : Hid _ := Hb
  have HON : Hid _ := hOn
  have hoc := hO.hmax
  have hol := hO.hle
  unfold maxLen at hoc
  clear h hb0 G0 Hb hz hT0 pe pp nx hwb hO hOn hszb
  go_enter Tryz.func21, Tryz.ntmps21
  go_wp2_with fail
  rw [HWB.out]
  refine hLe.mono ?_; rintro x w1 ⟨va, vl, vc, rfl, hl1, hb1⟩
  have I1 := HHb.out.below hb1
  have G1 : GB w w1 (X j).g (L j).gr ⟨12, a, bb, cc, dd⟩ := ⟨HG0.out.pr.below hb1 HG0.out.pr.lt, HG0.out.op.below hb1 HG0.out.op.lt⟩
  have hG := wGive_any (cnOf (M j).c) (X j) (m j) bb cc va vl vc os w1 (I1.ms.mach j hj) (hl1.ops hr)
  rw [HPE.out] at hG
  have p0 : w1.cell? ⟨w.heap.size, 0, none⟩ = some (.pointer (some ⟨(X j).g, 0, none⟩)) := G1.pr.cell 0
  have q2 : w1.cell? ⟨w.heap.size + 1, 2, none⟩ = some (.int .i64 bb) := G1.op.cell 2
  have q3 : w1.cell? ⟨w.heap.size + 1, 3, none⟩ = some (.int .i64 cc) := G1.op.cell 3
  have l0' := G1.pr.lt
  have l1' := G1.op.lt
  have hlo := hl1.ops hr
  have hvc := hlo.hmax
  have hvl := hlo.hle
  unfold maxLen at hvc
  have HI1 : Hid _ := I1
  have HG1 : Hid _ := G1
  have HL1 : Hid _ := hl1
  have hs1 : wb.heap.size ≤ w1.heap.size := hb1.size
  have HBW1 : Hid (Below w.heap.size w w1) := below_step HB0.out hb1 rfl
  clear hLe c2 c2w k0 I1 G1 hl1 hb1 hlo
  go_wp2_with fail
  refine hG.mono ?_; rintro x w2 ⟨rfl, X', hM2, hG2⟩
  have G2 := HG1.out.touch hG2.tch (HNX.out _ (Nat.le_refl _)).1 (HNX.out _ (by omega)).1
  obtain ⟨hR2, hlt2⟩ := HI1.out.ms.aside hj hG2
  have hul : ∀ g, UB W.heap.size o g → w2.heap[g]? = w1.heap[g]? := fun g hu => hG2.tch.block g (HI1.out.ub_lt hu) (fun q => by
    have e1 := HI1.out.ms.zx j g hj q
    rw [HI1.out.zu g hu] at e1
    cases e1)
  have ws2 := HI1.out.ws.keepU hul
  obtain ⟨hO2, _⟩ := ops_of ws2.ops
  have hR := rGive_any (L j) (M j) bb cc o.oa o.ol o.oc os w2.drew (hR2.same (fun _ _ => rfl)) hlt2 (hO2.below ((Below.refl _ _).drew) (Nat.le_refl _))
  have p1 : w2.cell? ⟨w.heap.size, 1, none⟩ = some (.pointer (some ⟨(L j).gr, 0, none⟩)) := G2.pr.cell 1
  have q2 : w2.cell? ⟨w.heap.size + 1, 2, none⟩ = some (.int .i64 bb) := G2.op.cell 2
  have q3 : w2.cell? ⟨w.heap.size + 1, 3, none⟩ = some (.int .i64 cc) := G2.op.cell 3
  have c2 : w2.cell? ⟨W.heap.size, 2, none⟩ = some (.slice o.oa o.ol o.oc) := by rw [ws2.row.cell]; rfl
  have l0 := G2.pr.lt
  have l1 := G2.op.lt
  have lW2 := ws2.row.lt
  have HL2 : Hid (LentPr w2 o.oa os va vl vc wb.heap.size) := LentPr.same HL1.out (fun hlt => hG2.tch.block _ hlt (HNX.out _ (by have := HSZ.out; omega)).1)
  have HM2 : Hid _ := hM2
  have HG2 : Hid _ := hG2
  have HGB2 : Hid _ := G2
  have HWS2 : Hid _ := ws2
  clear hG p0 hM2 hG2 G2 hR2 hlt2 hul ws2 hO2
  go_wp2_with fail
  have HRR : Hid _ := hR
  clear hR
  have HNU : Hid (∀ g, UB W.heap.size o g → g < w2.heap.size ∧ ¬ (L j).own g) := fun g hu => ⟨Nat.lt_of_lt_of_le (HI1.out.ub_lt hu) HG2.out.tch.size, fun q => by
    have e1 := HI1.out.ms.zl j g hj q
    rw [HI1.out.zu g hu] at e1
    cases e1⟩
  go_region_held3 (fun w' => w'.cell? ⟨w.heap.size, 1, none⟩ = some (.pointer (some ⟨(L j).gr, 0, none⟩)) ∧ w'.cell? ⟨w.heap.size + 1, 2, none⟩ = some (.int .i64 bb) ∧ w'.cell? ⟨w.heap.size + 1, 3, none⟩ = some (.int .i64 cc) ∧ w'.cell? ⟨W.heap.size, 2, none⟩ = some (.slice o.oa o.ol o.oc)) (first | exact ⟨G3.pr.cell 1, G3.op.cell 2, G3.op.cell 3, ws3.row.cell 2⟩ | go_keep) (first
    | (go_at_call 54; refine Calls.mono HRR.out ?_; rintro x w3 ⟨rfl, L', hgr, hR3, hT3d, hL3, hlt3⟩; have hT3 : Touch (L j).own w2 w3 := Touch.trans (b := w2.drew) ⟨rfl, rfl, rfl, Nat.le_refl _, fun _ _ _ => rfl⟩ hT3d; have G3 := HGB2.out.touch hT3 (HNX.out _ (Nat.le_refl _)).2 (HNX.out _ (by omega)).2; have ws3 := HWS2.out.keepU (fun g hu => hT3.block g (HNU.out g hu).1 (HNU.out g hu).2)))
  obtain ⟨zone', hms, hz', hT'⟩ := HI1.out.ms.both hj HM2.out HG2.out hR3 hT3 hL3 hlt3 (by unfold giveM; split <;> rfl) (by unfold giveM; split <;> rfl) HPP.out
  obtain ⟨I3, T3, Z3⟩ := HI1.out.call hms hz' hT' (pairs_same X L n j _ _ HG2.out.g hgr)
  obtain ⟨hO3, hOn3⟩ := ops_of I3.ws.ops
  have hl3 := LentPr.same (w' := w3) HL2.out (fun hlt => hT3.block _ hlt (HNX.out _ (by have := HSZ.out; omega)).2)
  have hWh := wholeOps_any o.oa o.ol o.oc os va vl vc wb.heap.size w3 hO3 hOn3 hr hl3
  have c2 : w3.cell? ⟨W.heap.size, 2, none⟩ = some (.slice o.oa o.ol o.oc) := by rw [I3.ws.row.cell]; rfl
  have lW3 := I3.ws.row.lt
  have HI3 : Hid _ := I3
  have HT3 : Hid _ := T3
  have HZ3 : Hid _ := Z3
  have HL3 : Hid _ := hl3
  clear p1 q2 q3 G3 ws3 hR3 hT3 hT3d hL3 hlt3 hms hz' hT' I3 T3 Z3 hO3 hOn3 hl3
  go_wp2_with fail
  refine hWh.mono ?_; rintro x w4 ⟨rfl, hb4⟩
  have I4 := HI3.out.below hb4
  have hSp := spoilOps_any o.oa os va vl vc wb.heap.size w4 hr (LentPr.same HL3.out (fun hlt => hb4.block _ hlt))
  have T4 : Touch (MZ W.heap.size o zone (.slice ma n mc)) w1 w4 := HT3.out.trans (Touch.of_below hb4 (Nat.le_refl _))
  have HI4 : Hid _ := I4
  have HT4 : Hid _ := T4
  have HS4 : Hid (va ≠ none → wb.heap.size < w1.heap.size) := fun hv => by
    rcases HL1.out with ⟨_, _, q, _, _⟩ | ⟨_, _, _, _, h5⟩
    · exact absurd q hv
    · exact h5.lt
  clear hWh hb4 c2 I4 T4
  go_wp2_with fail
  refine hSp.mono ?_; rintro x w5 ⟨rfl, hT5⟩
  have hbs := HB0.out.size
  have hws := HHb.out.bel.size
  have I5 := HI4.out.tch hT5 (fun g hg hq => by
    obtain ⟨rfl, hv⟩ := hg
    have := HHb.out.lt (HZ3.out _ (HS4.out hv) hq)
    omega) (fun g hg => by have := hg.1; omega)
  have HA : Hid (After W w w5 o e p b ts os zone n ma mc) := by
    refine ⟨zone', _, _, _, _, I5, ?_, fun g hg hq => HZ3.out g (by omega) hq⟩
    have t4 := HT4.out
    have b1 := HBW1.out
    refine ⟨hT5.os.trans (t4.os.trans b1.os), hT5.tape.trans (t4.tape.trans b1.tape), hT5.output.trans (t4.output.trans b1.output), Nat.le_trans b1.size (Nat.le_trans t4.size hT5.size), fun g hg hf => ?_⟩
    have s4 := t4.size
    have sb := b1.size
    exact (hT5.block g (by omega) (fun q => by have := q.1; have := HSZ.out; omega)).trans ((t4.block g (by omega) hf).trans (b1.block g hg))
  clear hSp hT5 I5
  generalize giveE (M j) bb cc os = ev
  go_wp2_with fail
  try go_quiet (fail)
  try go_wp2
  go_ret
  exact ⟨ret_bool (by simp), HA.out⟩
end Go.Proofs.YtehheaedbnfidaaGreat
