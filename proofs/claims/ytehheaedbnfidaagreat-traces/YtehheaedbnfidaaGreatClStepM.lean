/-
  The walk of wallslaw's step: New, and the calls on a machine.
-/
import Derived.Test.YtehheaedbnfidaaGreatClPackBD
import Derived.Test.YtehheaedbnfidaaGreatClPackBC
namespace Go.Proofs.YtehheaedbnfidaaGreat
open Go.RowKit
attribute [local go_sem ↓] Go.wp_at_zero Go.wp_at_succ

set_option maxRecDepth 100000 in
set_option maxHeartbeats 3200000 in
theorem step_made (W : World) (gw base : Nat) (o : Own) (m e p b : Value) (ts : List Int) (os : List (Int × Int × Int)) (st : St) (w : World) (h : WSt w gw base o m e p b ts os) (hr : StR st) (cfs : Nat → Cf) (hcs : CsAt W o.ca o.cl o.cc cfs) (hbW : Below W.heap.size W w)
    (hk : st.k = 11) (hpos : 0 < o.cl) (R : World → Prop)
    (hmade : ∀ (c : Cf) (s : Sl) (w2 : World), CfgAt W c s → CfR c → Below w.heap.size w w2 → Calls Tryz.prog 14 #[.pointer (some ⟨gw, 0, none⟩), cfgV c s] w2 fun x w' => x = .returned (.bool true) ∧ R w') :
    Calls Tryz.prog 9 #[.pointer (some ⟨gw, 0, none⟩), opV st] w fun x w' => x = .returned (.bool true) ∧ R w' := by
  have HP : Hid _ := hmade
  clear hmade
  obtain ⟨k, a, bb, cc, dd⟩ := st
  obtain ⟨ca, cl, ccap, ta, tl, tc, oa, ol, oc⟩ := o
  simp only at hk
  subst hk
  have bW : Below w.heap.size w (w.alloc (.cells (opA ⟨11, a, bb, cc, dd⟩) 36)) := (Below.refl _ _).alloc (Nat.le_refl _) _
  have rO : Row (w.alloc (.cells (opA ⟨11, a, bb, cc, dd⟩) 36)) w.heap.size [.int .i64 11, .int .i64 a, .int .i64 bb, .int .i64 cc, .int .i64 dd] 36 := heap_alloc_new w _
  have hW := h.below bW rfl
  go_enter Tryz.func9, Tryz.ntmps9
  go_wp2_with fail
  refine (owner_other gw ⟨11, a, bb, cc, dd⟩ _ (by simp only []; omega)).mono ?_
  rintro x w1 ⟨rfl, b1⟩
  have h1 := hW.below b1 rfl
  have rO1 := rO.below b1 rO.lt
  have bW1 := below_step bW b1 rfl
  have bWW := hbW.trans (bW1.mono hbW.size)
  have q1 : ∀ i, w1.cell? ⟨w.heap.size, i, none⟩ = (opA ⟨11, a, bb, cc, dd⟩)[i]? := fun i => by rw [rO1.cell]; simp
  have c0 : w1.cell? ⟨gw, 0, none⟩ = some (.slice ca cl ccap) := by rw [h1.row.cell]; rfl
  have ncl : ((cl : Int) == 0) = false := by simp; exact Nat.pos_iff_ne_zero.1 hpos
  clear b1 bW hW rO
  have hpos' : 0 < cl := hpos
  have hcc := hcs.hmax
  have hcl := hcs.hle
  have pb := pickZ_bd a cl (by omega)
  obtain ⟨j, hj⟩ := Int.eq_ofNat_of_zero_le pb.1
  have hjl : j < cl := by have := pb.2; omega
  have hpick : ∀ w : World, Calls Tryz.prog 13 #[.int .i64 a, .int .i64 cl] w fun e w' => e = .returned (.int .i64 (j : Int)) ∧ w' = w := fun w => by
    have := pick_any a cl w hr.a1 hr.a2 (by omega) (by omega)
    rw [hj] at this
    exact this
  have HK : Hid _ := hpick
  obtain ⟨cb, coff, s, hca, hcells0, hcfg, hcfr⟩ := hcs.hat j hjl
  subst hca
  have hcb : cb < W.heap.size := by
    have e := hcells0 0 (by omega)
    exact cell_lt (w := W) (a := ⟨cb, coff + j * 13 + 0, none⟩) (v := .int .i64 (cfs j).cores) (by rw [e]; rfl)
  have hcells : ∀ i, i < 13 → w1.cell? ⟨cb, coff + j * 13 + i, none⟩ = (cfgA (cfs j) s)[i]? := fun i hi => (bWW.cell (p := ⟨cb, coff + j * 13 + i, none⟩) hcb).trans (hcells0 i hi)
  have hcb1 : cb < w1.heap.size := Nat.lt_of_lt_of_le hcb bWW.size
  have e0 := hcells 0 (by omega)
  have e1 := hcells 1 (by omega)
  have e2 := hcells 2 (by omega)
  have e3 := hcells 3 (by omega)
  have e4 := hcells 4 (by omega)
  have e5 := hcells 5 (by omega)
  have e6 := hcells 6 (by omega)
  have e7 := hcells 7 (by omega)
  have e8 := hcells 8 (by omega)
  have e9 := hcells 9 (by omega)
  have e10 := hcells 10 (by omega)
  have e11 := hcells 11 (by omega)
  have e12 := hcells 12 (by omega)
  simp only [cfgA, Nat.add_zero] at e0 e1 e2 e3 e4 e5 e6 e7 e8 e9 e10 e11 e12
  have c1 : w1.cell? ⟨w.heap.size, 1, none⟩ = some (.int .i64 a) := q1 1
  have hj0 : (0 : Int) ≤ (j : Int) := by omega
  have hj1 : (j : Int) < (cl : Int) := by omega
  have nw := h1.row.lt
  clear hpick hj pb hcells hcells0 hcb
  go_wp2_with fail
  go_region_held3 (fun w' => w'.cell? ⟨gw, 0, none⟩ = some (.slice (some ⟨cb, coff, none⟩) cl ccap) ∧ w'.cell? ⟨w.heap.size, 1, none⟩ = some (.int .i64 a) ∧ w'.cell? ⟨cb, coff + j * 13, none⟩ = some (.int .i64 (cfs j).cores) ∧ w'.cell? ⟨cb, coff + j * 13 + 1, none⟩ = some (.int .i64 (cfs j).domains) ∧ w'.cell? ⟨cb, coff + j * 13 + 2, none⟩ = some (.int .i64 (cfs j).line) ∧ w'.cell? ⟨cb, coff + j * 13 + 3, none⟩ = some (.int .i64 (cfs j).priv) ∧ w'.cell? ⟨cb, coff + j * 13 + 4, none⟩ = some (.int .i64 (cfs j).shared) ∧ w'.cell? ⟨cb, coff + j * 13 + 5, none⟩ = some (.int .i64 (cfs j).near) ∧ w'.cell? ⟨cb, coff + j * 13 + 6, none⟩ = some (.int .i64 (cfs j).sets) ∧ w'.cell? ⟨cb, coff + j * 13 + 7, none⟩ = some (.slice s.wa s.wl s.wc) ∧ w'.cell? ⟨cb, coff + j * 13 + 8, none⟩ = some (.int .i64 (cfs j).slot) ∧ w'.cell? ⟨cb, coff + j * 13 + 9, none⟩ = some (.slice s.sa s.sl s.sc) ∧ w'.cell? ⟨cb, coff + j * 13 + 10, none⟩ = some (.slice s.ta s.tl s.tc) ∧ w'.cell? ⟨cb, coff + j * 13 + 11, none⟩ = some (.int .i64 (cfs j).quantum) ∧ w'.cell? ⟨cb, coff + j * 13 + 12, none⟩ = some (.int .i64 (cfs j).flush)) (go_keep) (first | (go_at_call 13; refine (HK.out _).mono ?_; rintro e w' ⟨rfl, rfl⟩))
  all_goals
    have bX : Below w1.heap.size w1 (w1.alloc (.cells (cfgA (cfs j) s) 43)).drew := ((Below.refl _ _).alloc (Nat.le_refl _) _).drew
    have rC : Row (w1.alloc (.cells (cfgA (cfs j) s) 43)).drew w1.heap.size (cfgL (cfs j) s) 43 := heap_alloc_new w1 _
    have rO2 := rO1.below bX rO1.lt
    have bW2 := below_step bW1 bX rfl
    clear e0 e1 e2 e3 e4 e5 e6 e7 e8 e9 e10 e11 e12 c0 c1 q1 bX
    generalize (w1.alloc (.cells (cfgA (cfs j) s) 43)).drew = w2 at *
    have q1 := row_q rC
    have q2 := row_q rO2
    go_wp2_with fail
    refine (HP.out (cfs j) s w2 hcfg hcfr bW2).mono ?_
    rintro x w3 ⟨rfl, r3⟩
    have HR3 : Hid _ := r3
    clear r3
    go_wp2
    go_ret
    exact ⟨rfl, HR3.out⟩

set_option maxRecDepth 100000 in
set_option maxHeartbeats 1600000 in
theorem step_noms (gw base : Nat) (o : Own) (mc : Nat) (ma : Option Addr) (e p b : Value) (ts : List Int) (os : List (Int × Int × Int)) (st : St) (w : World) (h : WSt w gw base o (.slice ma 0 mc) e p b ts os) (hk1 : 12 ≤ st.k) (hk2 : st.k ≤ 20) :
    Calls Tryz.prog 9 #[.pointer (some ⟨gw, 0, none⟩), opV st] w fun x w' => x = .returned (.bool true) ∧ Below w.heap.size w w' := by
  obtain ⟨k, a, bb, cc, dd⟩ := st
  simp only at hk1 hk2
  have bW : Below w.heap.size w (w.alloc (.cells (opA ⟨k, a, bb, cc, dd⟩) 36)) := (Below.refl _ _).alloc (Nat.le_refl _) _
  have rO : Row (w.alloc (.cells (opA ⟨k, a, bb, cc, dd⟩) 36)) w.heap.size [.int .i64 k, .int .i64 a, .int .i64 bb, .int .i64 cc, .int .i64 dd] 36 := heap_alloc_new w _
  have hW := h.below bW rfl
  have n10 : (k == 10) = false := by simp; omega
  have n5 : decide (k < 5) = false := by simp; omega
  have n20 : decide (20 < k) = false := by simp; omega
  have n11 : decide (k ≤ 11) = false := by simp; omega
  go_enter Tryz.func9, Tryz.ntmps9
  go_wp2_with fail
  refine (owner_other gw ⟨k, a, bb, cc, dd⟩ _ (by simp only []; omega)).mono ?_
  rintro x w1 ⟨rfl, b1⟩
  have h1 := hW.below b1 rfl
  have q1 := row_q (rO.below b1 rO.lt)
  have bW1 := below_step bW b1 rfl
  have c3 : w1.cell? ⟨gw, 3, none⟩ = some (.slice ma 0 mc) := by rw [h1.row.cell]; rfl
  have BW : Hid _ := bW1
  clear b1 bW1 bW hW rO
  go_wp2
  go_ret
  exact ⟨rfl, BW.out⟩

set_option maxRecDepth 100000 in
set_option maxHeartbeats 3200000 in
theorem step_given (gw base : Nat) (o : Own) (n mc g : Nat) (e p b : Value) (ts : List Int) (os : List (Int × Int × Int)) (st : St) (w : World) (h : WSt w gw base o (.slice (some ⟨g, 0, none⟩) n mc) e p b ts os) (hr : StR st) (hk1 : 12 ≤ st.k) (hk2 : st.k ≤ 16) (hpos : 0 < n) (hnm : n ≤ mc) (hmm : mc ≤ maxLen) (hg : g < w.heap.size)
    (px pl : Nat → Nat) (hat : ∀ j, j < n → w.cell? ⟨g, j * 2, none⟩ = some (.pointer (some ⟨px j, 0, none⟩)) ∧ w.cell? ⟨g, j * 2 + 1, none⟩ = some (.pointer (some ⟨pl j, 0, none⟩))) (R : World → Prop)
    (hgiven : ∀ (j : Nat) (w2 : World), j < n → Below w.heap.size w w2 → Calls Tryz.prog 21 #[.pointer (some ⟨gw, 0, none⟩), .agg #[.pointer (some ⟨px j, 0, none⟩), .pointer (some ⟨pl j, 0, none⟩)], opV st] w2 fun x w' => x = .returned (.bool true) ∧ R w') :
    Calls Tryz.prog 9 #[.pointer (some ⟨gw, 0, none⟩), opV st] w fun x w' => x = .returned (.bool true) ∧ R w' := by
  have HP : Hid _ := hgiven
  clear hgiven
  obtain ⟨k, a, bb, cc, dd⟩ := st
  simp only at hk1 hk2
  have bW : Below w.heap.size w (w.alloc (.cells (opA ⟨k, a, bb, cc, dd⟩) 36)) := (Below.refl _ _).alloc (Nat.le_refl _) _
  have rO : Row (w.alloc (.cells (opA ⟨k, a, bb, cc, dd⟩) 36)) w.heap.size [.int .i64 k, .int .i64 a, .int .i64 bb, .int .i64 cc, .int .i64 dd] 36 := heap_alloc_new w _
  have hW := h.below bW rfl
  have n10 : (k == 10) = false := by simp; omega
  have n5 : decide (k < 5) = false := by simp; omega
  have n20 : decide (20 < k) = false := by simp; omega
  have n11 : decide (k ≤ 11) = false := by simp; omega
  have n17 : (k == 17) = false := by simp; omega
  have n18 : (k == 18) = false := by simp; omega
  have n19 : (k == 19) = false := by simp; omega
  have n20' : (k == 20) = false := by simp; omega
  unfold maxLen at hmm
  go_enter Tryz.func9, Tryz.ntmps9
  go_wp2_with fail
  refine (owner_other gw ⟨k, a, bb, cc, dd⟩ _ (by simp only []; omega)).mono ?_
  rintro x w1 ⟨rfl, b1⟩
  have h1 := hW.below b1 rfl
  have rO1 := rO.below b1 rO.lt
  have bW1 := below_step bW b1 rfl
  have q1 : ∀ i, w1.cell? ⟨w.heap.size, i, none⟩ = (opA ⟨k, a, bb, cc, dd⟩)[i]? := fun i => by rw [rO1.cell]; simp
  have c3 : w1.cell? ⟨gw, 3, none⟩ = some (.slice (some ⟨g, 0, none⟩) n mc) := by rw [h1.row.cell]; rfl
  have ncl : ((n : Int) == 0) = false := by simp; exact Nat.pos_iff_ne_zero.1 hpos
  clear b1 bW hW rO
  have pb := pickZ_bd a n (by omega)
  obtain ⟨j, hj⟩ := Int.eq_ofNat_of_zero_le pb.1
  have hjl : j < n := by have := pb.2; omega
  have hpick : ∀ w : World, Calls Tryz.prog 13 #[.int .i64 a, .int .i64 n] w fun e w' => e = .returned (.int .i64 (j : Int)) ∧ w' = w := fun w => by
    have := pick_any a n w hr.a1 hr.a2 (by omega) (by omega)
    rw [hj] at this
    exact this
  have HK : Hid _ := hpick
  obtain ⟨e0', e1'⟩ := hat j hjl
  have e0 : w1.cell? ⟨g, j * 2, none⟩ = some (.pointer (some ⟨px j, 0, none⟩)) := (bW1.cell (p := ⟨g, j * 2, none⟩) hg).trans e0'
  have e1 : w1.cell? ⟨g, j * 2 + 1, none⟩ = some (.pointer (some ⟨pl j, 0, none⟩)) := (bW1.cell (p := ⟨g, j * 2 + 1, none⟩) hg).trans e1'
  have c1 : w1.cell? ⟨w.heap.size, 1, none⟩ = some (.int .i64 a) := q1 1
  have hj0 : (0 : Int) ≤ (j : Int) := by omega
  have hj1 : (j : Int) < (n : Int) := by omega
  have nw := h1.row.lt
  have ng : g < w1.heap.size := Nat.lt_of_lt_of_le hg bW1.size
  have HPJ := HP.out j
  have HPJ' : Hid _ := HPJ
  generalize px j = xj at *
  generalize pl j = lj at *
  clear hpick hj pb e0' e1' hat HPJ
  go_wp2_with fail
  go_region_held3 (fun w' => w'.cell? ⟨gw, 3, none⟩ = some (.slice (some ⟨g, 0, none⟩) n mc) ∧ w'.cell? ⟨w.heap.size, 1, none⟩ = some (.int .i64 a) ∧ w'.cell? ⟨g, j * 2, none⟩ = some (.pointer (some ⟨xj, 0, none⟩)) ∧ w'.cell? ⟨g, j * 2 + 1, none⟩ = some (.pointer (some ⟨lj, 0, none⟩))) (go_keep) (first | (go_at_call 13; refine (HK.out _).mono ?_; rintro e w' ⟨rfl, rfl⟩))
  all_goals
    have bX : Below w1.heap.size w1 (w1.alloc (.cells #[.pointer (some ⟨xj, 0, none⟩), .pointer (some ⟨lj, 0, none⟩)] 50)).drew := ((Below.refl _ _).alloc (Nat.le_refl _) _).drew
    have rP : Row (w1.alloc (.cells #[.pointer (some ⟨xj, 0, none⟩), .pointer (some ⟨lj, 0, none⟩)] 50)).drew w1.heap.size [.pointer (some ⟨xj, 0, none⟩), .pointer (some ⟨lj, 0, none⟩)] 50 := heap_alloc_new w1 _
    have rO2 := rO1.below bX rO1.lt
    have bW2 := below_step bW1 bX rfl
    clear e0 e1 c1 c3 q1 bX
    generalize (w1.alloc (.cells #[.pointer (some ⟨xj, 0, none⟩), .pointer (some ⟨lj, 0, none⟩)] 50)).drew = w2 at *
    have q1 := row_q rP
    have q2 := row_q rO2
    go_wp2_with fail
    refine (HPJ'.out w2 hjl bW2).mono ?_
    rintro x w3 ⟨rfl, r3⟩
    have HR3 : Hid _ := r3
    clear r3
    go_wp2
    go_ret
    exact ⟨rfl, HR3.out⟩
end Go.Proofs.YtehheaedbnfidaaGreat
