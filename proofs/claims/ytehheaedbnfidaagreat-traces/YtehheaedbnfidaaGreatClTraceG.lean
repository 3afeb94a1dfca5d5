/-
  The walk of wallslaw's traced, where there is a trace.
-/
import Derived.Test.YtehheaedbnfidaaGreatClLooks
import Derived.Test.YtehheaedbnfidaaGreatClRefTr
import Derived.Test.YtehheaedbnfidaaGreatClLinkR
import Derived.Test.YtehheaedbnfidaaGreatClPackQ
import Derived.Test.YtehheaedbnfidaaGreatClPackBK
import Derived.Deep.RegionHeld3
import Derived.Laws.Cover3
namespace Go.Proofs.YtehheaedbnfidaaGreat
open Go.RowKit

theorem Tryz.infoEvs : (Tryz.prog.info? 56).map (fun i => (i.zero, i.size, i.bytes)) = some (some (.slice none 0 0), 1, 24) := by kernel_rfl
def evN : Ev := ⟨0, 0, 0, 0, 0, 0⟩
def mkE (i : Nat) : Ev := ⟨-1000 - i, -1000 - i, -1000 - i, -1000 - i, -1000 - i, -1000 - i⟩

theorem ev_cells (es : List Ev) {q : Nat} (hq : q < es.length) : (es.flatMap eventL)[q * 6]? = some (.int .i64 (es.getD q evN).core) ∧ (es.flatMap eventL)[q * 6 + 1]? = some (.int .i64 (es.getD q evN).index) ∧ (es.flatMap eventL)[q * 6 + 2]? = some (.int .i64 (es.getD q evN).value) ∧ (es.flatMap eventL)[q * 6 + 3]? = some (.int .i64 (es.getD q evN).fault) ∧ (es.flatMap eventL)[q * 6 + 4]? = some (.int .i64 (es.getD q evN).issue) ∧ (es.flatMap eventL)[q * 6 + 5]? = some (.int .i64 (es.getD q evN).done) := by
  have h : ∀ r, r < 6 → (es.flatMap eventL)[q * 6 + r]? = (eventL (es.getD q evN))[r]? := fun r hr => by
    rw [flat_at eventL 6 (fun _ => rfl) es q r hr, List.getD_eq_getElem?_getD, List.getElem?_eq_getElem hq]
    rfl
  exact ⟨h 0 (by omega), h 1 (by omega), h 2 (by omega), h 3 (by omega), h 4 (by omega), h 5 (by omega)⟩

theorem ev_set : ∀ (es : List Ev) (q : Nat) (v : Ev), q < es.length → ((((((es.flatMap eventL).set (q * 6) (.int .i64 v.core)).set (q * 6 + 1) (.int .i64 v.index)).set (q * 6 + 2) (.int .i64 v.value)).set (q * 6 + 3) (.int .i64 v.fault)).set (q * 6 + 4) (.int .i64 v.issue)).set (q * 6 + 5) (.int .i64 v.done) = (es.set q v).flatMap eventL
  | [], q, v, h => by simp at h
  | x :: xs, 0, v, _ => by simp [eventL]
  | x :: xs, q + 1, v, h => by
    have ih := ev_set xs q v (by simpa using h)
    rw [List.set_cons_succ, List.flatMap_cons, List.flatMap_cons, ← ih]
    rw [show (q + 1) * 6 = (eventL x).length + q * 6 by show _ = 6 + q * 6; omega]
    simp only [Nat.add_assoc, List.set_append_right _ _ (Nat.le_add_right _ _), Nat.add_sub_cancel_left]

theorem evs_all {A : List Ev} {len : Nat} {v : Ev} (hl : A.length = len) (h : ∀ x, x < len → A.getD x evN = v) : A = List.replicate len v := by
  apply List.ext_getElem
  · simp [hl]
  · intro i h1 h2
    have := h i (by omega)
    rw [List.getD_eq_getElem?_getD, List.getElem?_eq_getElem h1] at this
    simpa using this

theorem eql_nil (w : World) (t e : TypeId) (a : Option Addr) (l c : Nat) (h : Tryz.prog.underlying t = some (.slice e)) : (binOp .eql t (.slice a l c) (.slice none 0 0)).run Tryz.prog w = .ok (.bool a.isNone) w := by
  unfold binOp
  simp [run_equal_slice_nil w t e a l c h]

set_option maxRecDepth 100000 in
set_option maxHeartbeats 6400000 in
theorem traced_good (W w : World) (o : Own) (ea : Option Addr) (en ec : Nat) (p b : Value) (ts : List Int) (os : List (Int × Int × Int)) (zone : Nat → Option Nat) (n : Nat) (X : Nat → XLoc) (m : Nat → Mh) (L : Nat → RLoc) (M : Nat → RDat) (ma : Option Addr) (mc : Nat) (h : MI W w o (.slice ea en ec) p b ts os zone n X m L M ma mc)
    (aE : Nat → Option Addr) (lE : Nat → Nat) (hE : Outs w W.heap.size 56 58 markE (.slice ea en ec) en aE lE) (hEz : ∀ g, OB (.slice ea en ec) en aE lE g → ¬ MZ W.heap.size o zone (.slice ma n mc) g) (j : Nat) (hj : j < n) (d : Nat) (hd : (d : Int) < (M j).c.domains) (hbig : (en + 1) * 24 ≤ 140737488355328) :
    Calls Tryz.prog 16 #[.pointer (some ⟨W.heap.size, 0, none⟩), .agg (prA (X j).g (L j).gr), .int .i64 d] w fun x w' => x = .returned (.bool true) ∧ ∃ ea' ec' aE' lE', MI W w' o (.slice ea' (en + 1) ec') p b ts os zone n X m L M ma mc ∧ Outs w' W.heap.size 56 58 markE (.slice ea' (en + 1) ec') (en + 1) aE' lE' ∧
      Touch (fun g => g = W.heap.size ∨ (Value.slice ea en ec).ownBlock = some g) w w' ∧ ∀ g, g < w.heap.size → OB (.slice ea' (en + 1) ec') (en + 1) aE' lE' g → OB (.slice ea en ec) en aE lE g := by
  have hb0 : Below w.heap.size w (w.alloc (.cells (prA (X j).g (L j).gr) 50)) := (Below.refl _ _).alloc (Nat.le_refl _) _
  have rP : Row (w.alloc (.cells (prA (X j).g (L j).gr) 50)) w.heap.size [.pointer (some ⟨(X j).g, 0, none⟩), .pointer (some ⟨(L j).gr, 0, none⟩)] 50 := heap_alloc_new w _
  obtain ⟨wb, hwb⟩ : ∃ wb, w.alloc (.cells (prA (X j).g (L j).gr) 50) = wb := ⟨_, rfl⟩
  rw [hwb] at hb0 rP
  have H0 := h.below hb0
  have hz := (h.ms.ref j hj).right
  have hT0 := (h.ms.ref j hj).T0
  have hT1 := (h.ms.ref j hj).T1
  have hpd := h.ms.pair j hj
  have hok := (hpd.ok hz hT0).1
  have hF := wTrace_any (cnOf (M j).c) (X j) (m j) d wb (H0.ms.mach j hj) hok
  have hlen := hok.trl (by show (M j).c.cores.toNat ≤ 3; have := (right_of hz).c2; omega) d
  have hV : traceV (cnOf (M j).c) (m j) d wb.heap.size = .slice (some ⟨wb.heap.size, 0, none⟩) ((m j).tr d).length ((m j).tr d).length := by
    unfold traceV
    rw [if_neg (by show ¬ ((d : Int) < 0 ∨ (M j).c.domains ≤ (d : Int)); omega), Int.toNat_natCast]
  have hW : traceW (cnOf (M j).c) (m j) d wb = wb.alloc (.cells (((m j).tr d).flatMap eventL).toArray 58) := by
    unfold traceW
    rw [if_neg (by show ¬ ((d : Int) < 0 ∨ (M j).c.domains ≤ (d : Int)); omega), Int.toNat_natCast]
  have hme : traceME (cnOf (M j).c) d = 0 := by
    unfold traceME
    rw [if_neg (by show ¬ ((d : Int) < 0 ∨ (M j).c.domains ≤ (d : Int)); omega)]
  rw [hV, hW, hme] at hF
  have htr := traceR hpd hz hT1 d hd
  have b1 : Below wb.heap.size wb (wb.alloc (.cells (((m j).tr d).flatMap eventL).toArray 58)) := (Below.refl _ _).alloc (Nat.le_refl _) _
  have rT : Row (wb.alloc (.cells (((m j).tr d).flatMap eventL).toArray 58)) wb.heap.size (((m j).tr d).flatMap eventL) 58 := heap_alloc_new wb _
  obtain ⟨w1, hw1⟩ : ∃ w1, wb.alloc (.cells (((m j).tr d).flatMap eventL).toArray 58) = w1 := ⟨_, rfl⟩
  rw [hw1] at hF b1 rT
  have H1 := H0.below b1
  have hR := rTrace_good (L j) (M j) d w1 (H1.ms.ref j hj) ((h.ms.cfg j hj).below H1.bel (Nat.le_refl _)) (by have := (h.ms.ref j hj).nd; omega)
  obtain ⟨es, hes⟩ : ∃ es, (m j).tr d = es := ⟨_, rfl⟩
  rw [hes] at hF hlen rT htr
  obtain ⟨len, hll⟩ : ∃ len, es.length = len := ⟨_, rfl⟩
  rw [hll] at hF hlen
  have p0 : wb.cell? ⟨w.heap.size, 0, none⟩ = some (.pointer (some ⟨(X j).g, 0, none⟩)) := rP.cell 0
  have l0 := rP.lt
  have HWB : Hid _ := hwb
  have HH : Hid _ := h
  have HE : Hid _ := hE
  have HEZ : Hid _ := hEz
  have HP : Hid (Row wb w.heap.size [.pointer (some ⟨(X j).g, 0, none⟩), .pointer (some ⟨(L j).gr, 0, none⟩)] 50) := rP
  have HRT : Hid (Row w1 wb.heap.size (es.flatMap eventL) 58) := rT
  have HTR : Hid _ := htr
  have HB0 : Hid _ := hb0
  have HB1 : Hid _ := b1
  have HLL : Hid _ := hll
  clear h hE hEz hb0 rP hz hT0 hT1 hpd hok hV hW hme b1 rT hw1 htr hwb hes hll H0 H1
  go_enter Tryz.func16, Tryz.ntmps16
  go_wp2_with fail
  rw [HWB.out]
  refine hF.mono ?_; rintro x v1 ⟨rfl, rfl⟩
  have rP1 : Row v1 w.heap.size [.pointer (some ⟨(X j).g, 0, none⟩), .pointer (some ⟨(L j).gr, 0, none⟩)] 50 := Row.below HP.out HB1.out (Row.lt HP.out)
  have p1 : v1.cell? ⟨w.heap.size, 1, none⟩ = some (.pointer (some ⟨(L j).gr, 0, none⟩)) := rP1.cell 1
  have l1 := rP1.lt
  clear p0 hF rP1
  go_wp2_with fail
  refine hR.mono ?_; rintro x w2 ⟨Y, rfl, hYd, hY⟩
  have hb2 := hY.below
  have hev := hY.solo.evs
  have hel := hY.solo.el
  rw [← HTR.out] at hev hel
  rw [HLL.out] at hev hel
  obtain ⟨ya, yl, yc, hy⟩ : ∃ ya yl yc, ya = Y.ea ∧ yl = Y.el ∧ yc = Y.ec := ⟨_, _, _, rfl, rfl, rfl⟩
  rw [← hy.1, ← hy.2.1, ← hy.2.2] at hev
  rw [← hy.1, ← hy.2.1, ← hy.2.2]
  rw [← hy.2.1] at hel
  subst hel
  have HB2 : Hid _ := hb2
  have HEV : Hid _ := hev
  clear hR hY hYd hy hb2 hev p1
  have hnl : ∀ v : World, (binOp .eql 56 (.slice (some ⟨wb.heap.size, 0, none⟩) yl yl) (.slice none 0 0)).run Tryz.prog v = .ok (.bool false) v := fun v => eql_nil v _ _ _ _ _ Tryz.underlying56
  go_wp2_with fail
  clear hnl
  have HR2 : Hid (Row w2 wb.heap.size (es.flatMap eventL) 58) := Row.below HRT.out HB2.out (Row.lt HRT.out)
  have HS0 : Hid (w.heap.size < wb.heap.size) := l0
  have S1 := HB1.out.size
  have S2 := HB2.out.size
  go_loopw [11, 12] (fun okv u wr => okv = .bool true ∧ ∃ (q : Nat), q ≤ yl ∧ u = .int .i64 q ∧ Below w2.heap.size w2 wr) (fun _ u _ => yl - (intOf u).toNat)
  case atStart => exact ⟨rfl, 0, by omega, rfl, Below.refl _ _⟩
  case round =>
    obtain ⟨rfl, q, hq, rfl, hbr⟩ := hrel
    have HBR : Hid _ := hbr
    have rL : Row wr wb.heap.size (es.flatMap eventL) 58 := Row.below HR2.out hbr (Row.lt HR2.out)
    by_cases hlt : q < yl
    · have hql : q < es.length := by rw [HLL.out]; exact hlt
      obtain ⟨z0, z1, z2, z3, z4, z5⟩ := ev_cells es hql
      have c0 := (rL.cell _).trans z0
      have c1 := (rL.cell _).trans z1
      have c2 := (rL.cell _).trans z2
      have c3 := (rL.cell _).trans z3
      have c4 := (rL.cell _).trans z4
      have c5 := (rL.cell _).trans z5
      obtain ⟨gk, e1, _, _, e2, e3⟩ := owns_cell HEV.out (by omega)
      subst e1
      have k0 : wr.cell? ⟨gk, q * 6, none⟩ = _ := (hbr.cell (p := ⟨gk, q * 6, none⟩) e2).trans ((e3 _ (by omega)).trans z0)
      have k1 : wr.cell? ⟨gk, q * 6 + 1, none⟩ = _ := (hbr.cell (p := ⟨gk, q * 6 + 1, none⟩) e2).trans ((e3 _ (by omega)).trans z1)
      have k2 : wr.cell? ⟨gk, q * 6 + 2, none⟩ = _ := (hbr.cell (p := ⟨gk, q * 6 + 2, none⟩) e2).trans ((e3 _ (by omega)).trans z2)
      have k3 : wr.cell? ⟨gk, q * 6 + 3, none⟩ = _ := (hbr.cell (p := ⟨gk, q * 6 + 3, none⟩) e2).trans ((e3 _ (by omega)).trans z3)
      have k4 : wr.cell? ⟨gk, q * 6 + 4, none⟩ = _ := (hbr.cell (p := ⟨gk, q * 6 + 4, none⟩) e2).trans ((e3 _ (by omega)).trans z4)
      have k5 : wr.cell? ⟨gk, q * 6 + 5, none⟩ = _ := (hbr.cell (p := ⟨gk, q * 6 + 5, none⟩) e2).trans ((e3 _ (by omega)).trans z5)
      have lL := rL.lt
      clear z0 z1 z2 z3 z4 z5 rL e3 hbr hql
      generalize es.getD q evN = ev at *
      obtain ⟨e0, e1, e2, e3, e4, e5⟩ := ev
      simp only at c0 c1 c2 c3 c4 c5 k0 k1 k2 k3 k4 k5
      go_wp2_with fail
      go_quiet (fail)
      go_wp2_with fail
      go_roundw
      case rel => exact ⟨by simp, q + 1, by omega, by go_num, HBR.out.trans ⟨rfl, rfl, rfl, Nat.le_refl _, fun _ _ => rfl⟩⟩
      case measure => simp [intOf]; omega
    · have HRL : Hid (Row wr wb.heap.size (es.flatMap eventL) 58) := rL
      have HWR : Hid (Below w.heap.size w wr) := ((HB0.out.trans (HB1.out.mono (by omega))).trans (HB2.out.mono (by omega))).trans (hbr.mono (by omega))
      have S3 := hbr.size
      clear rL hbr HBR
      go_wp2_with fail
      go_loopw [14] (fun u wv => ∃ (q : Nat) (A : List Ev), q ≤ yl ∧ u = .int .i64 q ∧ A.length = yl ∧ (∀ x, x < q → A.getD x evN = mkE en) ∧ Row wv wb.heap.size (A.flatMap eventL) 58 ∧ Below w.heap.size w wv ∧ w2.heap.size ≤ wv.heap.size) (fun u _ => yl - (intOf u).toNat)
      case atStart => exact ⟨0, es, by omega, rfl, HLL.out, fun x hx => by omega, HRL.out, HWR.out, S3⟩
      case round =>
        obtain ⟨q2, A, hq2, rfl, hA, hm, rA, hbv, sv⟩ := hrel
        have rW : Row wr W.heap.size (ownL o (.slice ma n mc) (.slice ea en ec) p b) 34 := Row.below HH.out.ws.row hbv HH.out.ws.row.lt
        have g4 : wr.cell? ⟨W.heap.size, 4, none⟩ = some (.slice ea en ec) := rW.cell 4
        have lW := rW.lt
        have lA := rA.lt
        have HRA : Hid (Row wr wb.heap.size (A.flatMap eventL) 58) := rA
        have HBV : Hid _ := hbv
        have HM : Hid _ := hm
        have HA : Hid _ := hA
        by_cases hlt2 : q2 < yl
        · obtain ⟨z0, z1, z2, z3, z4, z5⟩ := ev_cells A (q := q2) (by omega)
          have b1 : Below wr.heap.size wr (wr.alloc (.cells #[.int .i64 (-1000 - (en : Int)), .int .i64 (-1000 - (en : Int)), .int .i64 (-1000 - (en : Int)), .int .i64 (-1000 - (en : Int)), .int .i64 (-1000 - (en : Int)), .int .i64 (-1000 - (en : Int))] 58)) := (Below.refl _ _).alloc (Nat.le_refl _) _
          have rB : Row (wr.alloc (.cells #[.int .i64 (-1000 - (en : Int)), .int .i64 (-1000 - (en : Int)), .int .i64 (-1000 - (en : Int)), .int .i64 (-1000 - (en : Int)), .int .i64 (-1000 - (en : Int)), .int .i64 (-1000 - (en : Int))] 58)) wb.heap.size (A.flatMap eventL) 58 := Row.below rA b1 rA.lt
          have hK := kmarkEvent_any en (by omega) wr
          obtain ⟨wn, hwn⟩ : ∃ wn, wr.alloc (.cells #[.int .i64 (-1000 - (en : Int)), .int .i64 (-1000 - (en : Int)), .int .i64 (-1000 - (en : Int)), .int .i64 (-1000 - (en : Int)), .int .i64 (-1000 - (en : Int)), .int .i64 (-1000 - (en : Int))] 58) = wn := ⟨_, rfl⟩
          rw [hwn] at b1 rB hK
          have c0 := (rB.cell _).trans z0
          have c1 := (rB.cell _).trans z1
          have c2 := (rB.cell _).trans z2
          have c3 := (rB.cell _).trans z3
          have c4 := (rB.cell _).trans z4
          have c5 := (rB.cell _).trans z5
          have f0 := rB.frozen (q2 * 6)
          have f1 := rB.frozen (q2 * 6 + 1)
          have f2 := rB.frozen (q2 * 6 + 2)
          have f3 := rB.frozen (q2 * 6 + 3)
          have f4 := rB.frozen (q2 * 6 + 4)
          have f5 := rB.frozen (q2 * 6 + 5)
          have lB := rB.lt
          have HRB : Hid (Row wn wb.heap.size (A.flatMap eventL) 58) := rB
          have HB1' : Hid _ := b1
          clear z0 z1 z2 z3 z4 z5 rA rW rB b1 hbv hm hA hwn
          go_wp2_with fail
          refine hK.mono ?_; rintro x wk ⟨rfl, rfl⟩
          clear g4
          go_wp2_with fail
          go_roundw
          case rel =>
            have sB := HB1'.out.size
            refine ⟨q2 + 1, A.set q2 (mkE en), by omega, by go_num, by rw [List.length_set]; exact HA.out, fun x hx => ?_, ?_, ?_, ?_⟩
            · by_cases e : x = q2
              · subst e
                rw [List.getD_eq_getElem?_getD, List.getElem?_set_self (by rw [HA.out]; omega)]
                rfl
              · rw [List.getD_eq_getElem?_getD, List.getElem?_set_ne (fun e' => e e'.symm), ← List.getD_eq_getElem?_getD]
                exact HM.out x (by omega)
            · have := ((((((Row.setCell HRB.out (q2 * 6) (.int .i64 (-1000 - (en : Int)))).setCell (q2 * 6 + 1) (.int .i64 (-1000 - (en : Int)))).setCell (q2 * 6 + 2) (.int .i64 (-1000 - (en : Int)))).setCell (q2 * 6 + 3) (.int .i64 (-1000 - (en : Int)))).setCell (q2 * 6 + 4) (.int .i64 (-1000 - (en : Int)))).setCell (q2 * 6 + 5) (.int .i64 (-1000 - (en : Int))))
              rw [← ev_set A q2 (mkE en) (by rw [HA.out]; exact hlt2)]
              exact this
            · have b2 := below_step HBV.out HB1'.out rfl
              exact ((((((b2.setCell (p := ⟨wb.heap.size, q2 * 6, none⟩) (by show w.heap.size ≤ wb.heap.size; omega) _).setCell (p := ⟨wb.heap.size, q2 * 6 + 1, none⟩) (by show w.heap.size ≤ wb.heap.size; omega) _).setCell (p := ⟨wb.heap.size, q2 * 6 + 2, none⟩) (by show w.heap.size ≤ wb.heap.size; omega) _).setCell (p := ⟨wb.heap.size, q2 * 6 + 3, none⟩) (by show w.heap.size ≤ wb.heap.size; omega) _).setCell (p := ⟨wb.heap.size, q2 * 6 + 4, none⟩) (by show w.heap.size ≤ wb.heap.size; omega) _).setCell (p := ⟨wb.heap.size, q2 * 6 + 5, none⟩) (by show w.heap.size ≤ wb.heap.size; omega) _)
            · simp only [World.size_setCell]
              omega
          case measure => simp [intOf]; omega
        · have eq2 : q2 = yl := by omega
          have rM : Row wr wb.heap.size (markL (markE en) yl) 58 := by
            rw [evs_all (v := mkE en) hA (fun x hx => hm x (by omega)), markL_flat eventL (mkE en)] at rA
            exact rA
          have HRM : Hid (Row wr wb.heap.size (markL (markE en) yl) 58) := rM
          have HO : Hid (wr.ownsRow W.heap.size 56 1 (.slice ea en ec) en ((List.range en).map fun i => .slice (aE i) (lE i) (lE i))) := owns_same HE.out.row (fun g hg => hbv.block g (owns_lt HE.out.row g hg).1)
          have HRW : Hid (Row wr W.heap.size (ownL o (.slice ma n mc) (.slice ea en ec) p b) 34) := rW
          have ag : (Value.slice ea en ec).ownBlock ≠ some W.heap.size := own_ne HO.out rW (by decide)
          obtain ⟨i0, hi0, hz0, hz1, hz2⟩ := info_parts Tryz.infoEvs
          have HBIG : Hid _ := hbig
          have HSZ : Hid (W.heap.size ≤ w.heap.size) := HH.out.bel.size
          clear rA rM rW hbv hm hA hbig
          go_wp2_with (at_builtin; refine wpList_append_lies _ rfl _ _ 30 rfl W.heap.size 56 i0 _ 1 24 Tryz.underlying30 hi0 hz0 hz1 hz2 rfl (by decide) (.slice ea en ec) en ((List.range en).map fun i => .slice (aE i) (lE i) (lE i)) rfl ?p1 ⟨wr.heap.size, 0, none⟩ 1 1 [.slice (some ⟨wb.heap.size, 0, none⟩) yl yl] ?p9 rfl ?p3 ?p4 (by omega) ?p5 ?p6 ?p7 _ rfl ?p8)
          case p1 => exact World.ownsRow.alloc HO.out _
          try case p3 => exact World.news_of_block (cs := #[.slice (some ⟨wb.heap.size, 0, none⟩) yl yl]) (t := 56) (fr := (0, 0)) (heap_alloc_new wr _)
          case p4 => simp [Value.oneCell']
          case p5 => have := HBIG.out; unfold maxLen; omega
          case p6 => exact HBIG.out
          case p7 => simp; omega
          try case p9 => rfl
          case p8 =>
            intro gg cap w8 hown8 hgrow hat hlt8
            have f2 : w8.frozen? ⟨W.heap.size, 4, none⟩ = false := (hgrow.frozen_far ⟨W.heap.size, 4, none⟩ (by simp; omega) (Ne.symm ag)).trans ((Row.alloc HRW.out _).frozen 4)
            have c4 : w8.cell? ⟨W.heap.size, 4, none⟩ = some (.slice ea en ec) := (hgrow.cell_far ⟨W.heap.size, 4, none⟩ (by simp; omega) (Ne.symm ag)).trans ((Row.alloc HRW.out _).cell 4)
            have HA : Hid _ := Outs.done (f := 4) HH.out HE.out (by decide) (by decide) (by decide) HBV.out (show yl ≤ 9223372036854775807 by omega) (fun _ => ⟨wb.heap.size, rfl, by omega, HRM.out⟩) ((Below.refl _ _).alloc (Nat.le_refl _) _) hgrow hown8 (hat.imp id (fun q => by have := HBV.out.size; first | omega | (simp at q; omega) | (rw [q]; simp; omega)))
            clear hown8 hgrow hat
            go_wp2
            go_ret
            obtain ⟨g1, g2, g3, g5⟩ := HA.out
            exact ⟨rfl, some ⟨gg, 0, none⟩, cap, _, _, HH.out.out (K := fun g => (Value.slice ea en ec).ownBlock = some g) g1 g3 (fun g hg => ⟨(HE.out.lt (Or.inl hg)).1, HEZ.out g (Or.inl hg)⟩), g2, g3, g5⟩
end Go.Proofs.YtehheaedbnfidaaGreat
