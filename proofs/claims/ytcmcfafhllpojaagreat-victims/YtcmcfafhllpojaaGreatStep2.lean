/-
  The walk of wallslaw's step: a call on a configuration.
-/
import Derived.Test.YtcmcfafhllpojaaGreatStep
import Derived.Test.YtcmcfafhllpojaaGreatPlan
import Derived.Deep.RegionHeld3
import Derived.Deep.DrawnRows
namespace Go.Proofs.YtcmcfafhllpojaaGreat
open Go.RowKit
attribute [local go_sem ↓] Go.wp_at_zero Go.wp_at_succ

/-- A list of configurations. -/
structure CsAt (w : World) (ca : Option Addr) (cl cc : Nat) (cfs : Nat → Cf) : Prop where
  hle : cl ≤ cc
  hmax : cc * 152 ≤ 140737488351232
  hat : ∀ j, j < cl → ∃ b off s, ca = some ⟨b, off, none⟩ ∧ (∀ i, i < 13 → w.cell? ⟨b, off + j * 13 + i, none⟩ = (cfgA (cfs j) s)[i]?) ∧ CfgAt w (cfs j) s ∧ CfR (cfs j)

theorem CsAt.below {w w' : World} {ca : Option Addr} {cl cc n : Nat} {cfs : Nat → Cf} (h : CsAt w ca cl cc cfs) (hb : Below n w w') (hn : w.heap.size ≤ n) : CsAt w' ca cl cc cfs := by
  refine ⟨h.hle, h.hmax, fun j hj => ?_⟩
  obtain ⟨b, off, s, h1, h2, h3, h4⟩ := h.hat j hj
  refine ⟨b, off, s, h1, fun i hi => ?_, h3.below hb hn, h4⟩
  rw [← h2 i hi]
  have e := h2 0 (by omega)
  have := cell_lt (w := w) (a := ⟨b, off + j * 13 + 0, none⟩) (v := .int .i64 (cfs j).cores) (by rw [e]; rfl)
  exact hb.cell (p := ⟨b, off + j * 13 + i, none⟩) (by simp only [] at this ⊢; omega)

structure StR (o : St) : Prop where
  k1 : -9223372036854775808 ≤ o.k
  k2 : o.k ≤ 9223372036854775807
  a1 : -9223372036854775808 ≤ o.a
  a2 : o.a ≤ 9223372036854775807

set_option maxRecDepth 100000 in
set_option maxHeartbeats 3200000 in
theorem step_plan (gw base : Nat) (o : Own) (m e p b : Value) (ts : List Int) (os : List (Int × Int × Int)) (st : St) (w : World) (h : WSt w gw base o m e p b ts os) (hr : StR st) (cfs : Nat → Cf) (hcs : CsAt w o.ca o.cl o.cc cfs)
    (hk1 : 5 ≤ st.k) (hk2 : st.k ≤ 9) (hpos : 0 < o.cl)
    (hplan : ∀ (c : Cf) (s : Sl) (w : World), CfgAt w c s → CfR c → Calls Tryz.prog 46 #[cfgV c s, opV st] w fun e w' => e = .returned (.bool true) ∧ Below w.heap.size w w') :
    Calls Tryz.prog 23 #[.pointer (some ⟨gw, 0, none⟩), opV st] w fun x w' => x = .returned (.bool true) ∧ Below w.heap.size w w' := by
  have HP : Hid _ := hplan
  clear hplan
  obtain ⟨k, a, bb, cc, dd⟩ := st
  obtain ⟨ca, cl, ccap, ta, tl, tc, oa, ol, oc⟩ := o
  simp only at hk1 hk2
  have bW : Below w.heap.size w (w.alloc (.cells (opA ⟨k, a, bb, cc, dd⟩) 61)) := (Below.refl _ _).alloc (Nat.le_refl _) _
  have rO : Row (w.alloc (.cells (opA ⟨k, a, bb, cc, dd⟩) 61)) w.heap.size [.int .i64 k, .int .i64 a, .int .i64 bb, .int .i64 cc, .int .i64 dd] 61 := heap_alloc_new w _
  have hW := h.below bW rfl
  have n10 : (k == 10) = false := by simp; omega
  have n11 : (k == 11) = false := by simp; omega
  have n5 : decide (k < 5) = false := by simp; omega
  have n20 : decide (20 < k) = false := by simp; omega
  go_enter Tryz.func23, Tryz.ntmps23
  go_wp2_with fail
  refine (owner_other gw ⟨k, a, bb, cc, dd⟩ _ (by simp only []; omega)).mono ?_
  rintro x w1 ⟨rfl, b1⟩
  have h1 := hW.below b1 rfl
  have rO1 := rO.below b1 rO.lt
  have bW1 := below_step bW b1 rfl
  have hc1 := hcs.below bW1 (Nat.le_refl _)
  have q1 : ∀ i, w1.cell? ⟨w.heap.size, i, none⟩ = (opA ⟨k, a, bb, cc, dd⟩)[i]? := fun i => by rw [rO1.cell]; simp
  have c0 : w1.cell? ⟨gw, 0, none⟩ = some (.slice ca cl ccap) := by rw [h1.row.cell]; rfl
  have ncl : ((cl : Int) == 0) = false := by simp; exact Nat.pos_iff_ne_zero.1 hpos
  clear b1 bW hW rO
  have hpos' : 0 < cl := hpos
  have hcc := hc1.hmax
  have hcl := hc1.hle
  have pb := pickZ_bd a cl (by omega)
  obtain ⟨j, hj⟩ := Int.eq_ofNat_of_zero_le pb.1
  have hjl : j < cl := by have := pb.2; omega
  have hpick : ∀ w : World, Calls Tryz.prog 44 #[.int .i64 a, .int .i64 cl] w fun e w' => e = .returned (.int .i64 (j : Int)) ∧ w' = w := fun w => by
    have := pick_any a cl w hr.a1 hr.a2 (by omega) (by omega)
    rw [hj] at this
    exact this
  have HK : Hid _ := hpick
  obtain ⟨cb, coff, s, hca, hcells, hcfg, hcfr⟩ := hc1.hat j hjl
  subst hca
  have e0 := hcells 0 (by omega)
  have e1 := hcells 1 (by omega)
  have e2 := hcells 2 (by omega)
  have e3 := hcells 3 (by omega)
  have e4 := hcells 4 (by omega)
  have e5 := hcells 5 (by omega)
  have e6 := hcells 6 (by omega)
  have e7 := hcells 7 (by omega)
  have e8 := hcells 8 (by omega)
  have e9 := hcells 9 (by omega)
  have e10 := hcells 10 (by omega)
  have e11 := hcells 11 (by omega)
  have e12 := hcells 12 (by omega)
  simp only [cfgA, Nat.add_zero] at e0 e1 e2 e3 e4 e5 e6 e7 e8 e9 e10 e11 e12
  have c1 : w1.cell? ⟨w.heap.size, 1, none⟩ = some (.int .i64 a) := q1 1
  have hj0 : (0 : Int) ≤ (j : Int) := by omega
  have hj1 : (j : Int) < (cl : Int) := by omega
  have nw := h1.row.lt
  clear hpick hj pb hcells
  go_wp2_with fail
  go_region_held3 (fun w' => w'.cell? ⟨gw, 0, none⟩ = some (.slice (some ⟨cb, coff, none⟩) cl ccap) ∧ w'.cell? ⟨w.heap.size, 1, none⟩ = some (.int .i64 a) ∧ w'.cell? ⟨cb, coff + j * 13, none⟩ = some (.int .i64 (cfs j).cores) ∧ w'.cell? ⟨cb, coff + j * 13 + 1, none⟩ = some (.int .i64 (cfs j).domains) ∧ w'.cell? ⟨cb, coff + j * 13 + 2, none⟩ = some (.int .i64 (cfs j).line) ∧ w'.cell? ⟨cb, coff + j * 13 + 3, none⟩ = some (.int .i64 (cfs j).priv) ∧ w'.cell? ⟨cb, coff + j * 13 + 4, none⟩ = some (.int .i64 (cfs j).shared) ∧ w'.cell? ⟨cb, coff + j * 13 + 5, none⟩ = some (.int .i64 (cfs j).near) ∧ w'.cell? ⟨cb, coff + j * 13 + 6, none⟩ = some (.int .i64 (cfs j).sets) ∧ w'.cell? ⟨cb, coff + j * 13 + 7, none⟩ = some (.slice s.wa s.wl s.wc) ∧ w'.cell? ⟨cb, coff + j * 13 + 8, none⟩ = some (.int .i64 (cfs j).slot) ∧ w'.cell? ⟨cb, coff + j * 13 + 9, none⟩ = some (.slice s.sa s.sl s.sc) ∧ w'.cell? ⟨cb, coff + j * 13 + 10, none⟩ = some (.slice s.ta s.tl s.tc) ∧ w'.cell? ⟨cb, coff + j * 13 + 11, none⟩ = some (.int .i64 (cfs j).quantum) ∧ w'.cell? ⟨cb, coff + j * 13 + 12, none⟩ = some (.int .i64 (cfs j).flush)) (go_keep) (first | (go_at_call 44; refine (HK.out _).mono ?_; rintro e w' ⟨rfl, rfl⟩))
  all_goals
    have bX : Below w1.heap.size w1 (w1.alloc (.cells (cfgA (cfs j) s) 29)).drew := ((Below.refl _ _).alloc (Nat.le_refl _) _).drew
    have rC : Row (w1.alloc (.cells (cfgA (cfs j) s) 29)).drew w1.heap.size (cfgL (cfs j) s) 29 := heap_alloc_new w1 _
    have rO2 := rO1.below bX rO1.lt
    have hcfg2 := hcfg.below bX (Nat.le_refl _)
    have bW2 := below_step bW1 bX rfl
    clear e0 e1 e2 e3 e4 e5 e6 e7 e8 e9 e10 e11 e12 c0 c1 q1 bX
    generalize (w1.alloc (.cells (cfgA (cfs j) s) 29)).drew = w2 at *
    have q1 := row_q rC
    have q2 := row_q rO2
    go_wp2_with fail
    refine (HP.out (cfs j) s w2 hcfg2 hcfr).mono ?_
    rintro x w3 ⟨rfl, b3⟩
    go_wp2
    go_ret
    exact ⟨rfl, below_step bW2 b3 rfl⟩
end Go.Proofs.YtcmcfafhllpojaaGreat
