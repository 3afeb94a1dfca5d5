/-
  Ref3, Ref4
-/
import Derived.Test.YtehheaedbnfidaaGreatClPackI
namespace Go.Proofs.YtehheaedbnfidaaGreat
open Go.RowKit

set_option maxHeartbeats 400000 in
theorem rways_any (c : Cf) (s : Sl) (w : World) (h : CfgAt w c s) (hd1 : 1 ≤ c.domains) (hd2 : c.domains ≤ 4) :
    Calls Tryz.prog 69 #[cfgV c s] w fun e w' => e = .returned (.bool (waysB c)) ∧ Below w.heap.size w w' := by
  have hl := (h.ways.alloc (.cells (cfgA c s) 43))
  go_enter Tryz.func69, Tryz.ntmps69
  go_wp2
  go_loop [3] (fun i => ∃ k : Nat, (k : Int) ≤ c.domains ∧ i = .int .i64 k ∧ allUpto (fun d => smallB (c.ways.count d)) k = true) (fun i => c.domains.toNat - (intOf i).toNat)
  case atStart => exact ⟨0, by omega, rfl, rfl⟩
  case round =>
    obtain ⟨k, hk, rfl, hall⟩ := hrel
    have HA : Hid _ := hall
    clear hall
    by_cases hlt : (k : Int) < c.domains
    · rcases Bool.eq_false_or_eq_true (smallB (c.ways.count (k : Int))) with hx | hx
      · go_wp2_with (first | (go_at_call 78; refine (rcount_any _ _ _ c.ways _ _ hl).mono ?_; rintro e w' ⟨rfl, rfl⟩) | (go_at_call 65; refine (rsmall_any _ _).mono ?_; rintro e w' ⟨rfl, rfl⟩))
        go_round
        case rel => exact ⟨k + 1, by omega, by go_num, by simp [allUpto, HA.out, hx]⟩
        case measure => simp [intOf]; omega
      · go_wp2_with (first | (go_at_call 78; refine (rcount_any _ _ _ c.ways _ _ hl).mono ?_; rintro e w' ⟨rfl, rfl⟩) | (go_at_call 65; refine (rsmall_any _ _).mono ?_; rintro e w' ⟨rfl, rfl⟩))
        go_ret
        exact ⟨ret_bool (by simp [waysB, allUpto_false (fun d => smallB (c.ways.count d)) k hx c.domains.toNat (by omega)]), (Below.refl _ _).alloc (Nat.le_refl _) _⟩
    · have e : k = c.domains.toNat := by omega
      have HB := HA.out
      rw [e] at HB
      have HC : Hid _ := HB
      clear HB e
      go_wp2_with (go_at_call 110; refine (rwithin_any _ _ _ c.ways _ _ _ _ hl).mono ?_; rintro e w' ⟨rfl, rfl⟩)
      go_ret
      exact ⟨ret_bool (by simp [waysB, HC.out]), (Below.refl _ _).alloc (Nat.le_refl _) _⟩

set_option maxHeartbeats 400000 in
theorem rslots_any (c : Cf) (s : Sl) (w : World) (h : CfgAt w c s) (hd1 : 1 ≤ c.domains) (hd2 : c.domains ≤ 4) :
    Calls Tryz.prog 70 #[cfgV c s] w fun e w' => e = .returned (.bool (slotsB c)) ∧ Below w.heap.size w w' := by
  have hl := (h.slots.alloc (.cells (cfgA c s) 43))
  go_enter Tryz.func70, Tryz.ntmps70
  go_wp2
  go_loop [3] (fun i => ∃ k : Nat, (k : Int) ≤ c.domains ∧ i = .int .i64 k ∧ allUpto (fun d => !((c.slots.count d : Int) == 0)) k = true) (fun i => c.domains.toNat - (intOf i).toNat)
  case atStart => exact ⟨0, by omega, rfl, rfl⟩
  case round =>
    obtain ⟨k, hk, rfl, hall⟩ := hrel
    have HA : Hid _ := hall
    clear hall
    by_cases hlt : (k : Int) < c.domains
    · rcases Bool.eq_false_or_eq_true ((c.slots.count (k : Int) : Int) == 0) with hx | hx
      · go_wp2_with (go_at_call 78; refine (rcount_any _ _ _ c.slots _ _ hl).mono ?_; rintro e w' ⟨rfl, rfl⟩)
        go_ret
        exact ⟨ret_bool (by simp [slotsB, allUpto_false (fun d => !((c.slots.count d : Int) == 0)) k (by simpa using hx) c.domains.toNat (by omega)]), (Below.refl _ _).alloc (Nat.le_refl _) _⟩
      · go_wp2_with (go_at_call 78; refine (rcount_any _ _ _ c.slots _ _ hl).mono ?_; rintro e w' ⟨rfl, rfl⟩)
        go_round
        case rel => exact ⟨k + 1, by omega, by go_num, by simp only [allUpto, HA.out, hx]; rfl⟩
        case measure => simp [intOf]; omega
    · have e : k = c.domains.toNat := by omega
      have HB := HA.out
      rw [e] at HB
      have HC : Hid _ := HB
      clear HB e
      by_cases h1 : 1 ≤ c.slot
      · by_cases h2 : c.slot ≤ 4
        · have HS : Hid (withinB c.slot 1 4 = true) := (within_iff _ _ _).2 (by omega)
          go_wp2_with (go_at_call 110; refine (rwithin_any _ _ _ c.slots _ _ _ _ hl).mono ?_; rintro e w' ⟨rfl, rfl⟩)
          go_ret
          exact ⟨ret_bool (by simp only [slotsB, HC.out, HS.out]; simp), (Below.refl _ _).alloc (Nat.le_refl _) _⟩
        · go_wp2
          go_ret
          exact ⟨ret_bool (by simp [slotsB, (within_not c.slot 1 4).2 (by omega)]), (Below.refl _ _).alloc (Nat.le_refl _) _⟩
      · go_wp2
        go_ret
        exact ⟨ret_bool (by simp [slotsB, (within_not c.slot 1 4).2 (by omega)]), (Below.refl _ _).alloc (Nat.le_refl _) _⟩

set_option maxHeartbeats 400000 in
theorem rworst_any (c : Cf) (s : Sl) (w : World) (h : CfgAt w c s) (h1 : 1 ≤ c.cores) (h2 : c.cores ≤ 3) (h3 : 1 ≤ c.slot) (h4 : c.slot ≤ 4) (h5 : c.slots.length ≤ 8) :
    Calls Tryz.prog 72 #[cfgV c s] w fun e w' => e = .returned (.int .i64 (worstZ c)) ∧ Below w.heap.size w w' := by
  have hl := h.slots.hlen
  have b1 : (3 * c.cores) * (s.sl : Int) ≤ 72 ∧ 0 ≤ (3 * c.cores) * (s.sl : Int) := by
    constructor
    · have : (3 * c.cores) * (s.sl : Int) ≤ 9 * 8 := Int.mul_le_mul (by omega) (by omega) (by omega) (by omega)
      omega
    · exact Int.mul_nonneg (by omega) (by omega)
  obtain ⟨b2, b3⟩ := b1
  have b4 : (3 * c.cores) * (s.sl : Int) * c.slot ≤ 288 := by
    have : (3 * c.cores) * (s.sl : Int) * c.slot ≤ 72 * 4 := Int.mul_le_mul (by omega) (by omega) (by omega) (by omega)
    omega
  have b5 : 0 ≤ (3 * c.cores) * (s.sl : Int) * c.slot := Int.mul_nonneg (by omega) (by omega)
  have HE : Hid (worstZ c = 3 * c.cores * s.sl * c.slot) := by unfold worstZ Hid; rw [hl]
  clear hl
  go_enter Tryz.func72, Tryz.ntmps72
  go_wp2
  go_ret
  exact ⟨ret_int (by rw [HE.out]), (Below.refl _ _).alloc (Nat.le_refl _) _⟩

set_option maxHeartbeats 400000 in
theorem rturns_any (c : Cf) (s : Sl) (w : World) (h : CfgAt w c s) :
    Calls Tryz.prog 71 #[cfgV c s] w fun e w' => e = .returned (.bool (turnsB c)) ∧ Below w.heap.size w w' := by
  obtain ⟨wa, wl, wc, sa, sl, sc, ta, tl, tc⟩ := s
  have hg : Grid (w.alloc (.cells (cfgA c ⟨wa, wl, wc, sa, sl, sc, ta, tl, tc⟩) 43)) ta tl tc c.turns := h.turns.alloc (.cells (cfgA c ⟨wa, wl, wc, sa, sl, sc, ta, tl, tc⟩) 43)
  have hle := hg.hle
  have hm := hg.hmax
  unfold maxLen at hm
  have HL : Hid (c.turns.length = tl) := hg.hlen
  go_enter Tryz.func71, Tryz.ntmps71
  go_wp2
  go_loopw [3] (fun i w' => ∃ k n : Nat, k ≤ tl ∧ i = .int .i64 k ∧ (c.turns.take k).all (fun l => listB l 4 (-1) (c.domains - 1)) = true ∧ w' = (w.alloc (.cells (cfgA c ⟨wa, wl, wc, sa, sl, sc, ta, tl, tc⟩) 43)).drewN n) (fun i _ => tl - (intOf i).toNat)
  case atStart => exact ⟨0, 0, by omega, rfl, rfl, rfl⟩
  case round =>
    obtain ⟨k, n, hk, rfl, hall, hwr⟩ := hrel
    have HA : Hid _ := hall
    clear hall
    have HW : Hid _ := hwr
    have c10 : wr.cell? ⟨w.heap.size, 10, none⟩ = some (.slice ta tl tc) := by rw [hwr]; simp
    have c1 : wr.cell? ⟨w.heap.size, 1, none⟩ = some (.int .i64 c.domains) := by rw [hwr]; simp
    have c0 : wr.cell? ⟨w.heap.size, 0, none⟩ = some (.int .i64 c.cores) := by rw [hwr]; simp
    have hgr : Grid wr ta tl tc c.turns := by rw [hwr]; exact hg.drewN n
    clear hwr
    by_cases hlt : k < tl
    · obtain ⟨b, off, ia, il, ic, rfl, hc, hi⟩ := hgr.hat k hlt
      have HS : Hid _ := all_snoc (fun l => listB l 4 (-1) (c.domains - 1)) c.turns [] k (by rw [HL.out]; exact hlt)
      have HR : Hid _ := all_false_of (fun l => listB l 4 (-1) (c.domains - 1)) c.turns [] k (by rw [HL.out]; exact hlt)
      generalize c.turns.getD k [] = row at *
      rcases Bool.eq_false_or_eq_true (listB row 4 (-1) (c.domains - 1)) with hx | hx
      · have HX : Hid _ := hx
        clear hx
        go_wp2
        go_quiet ((go_at_call 110; exact Calls.quiet_of_same (rwithin_any _ _ _ row _ _ _ _ (hi.drewN _))))
        rw [HX.out]
        go_wp2
        go_roundw
        case rel => exact ⟨k + 1, n + nq, by omega, by go_num, by rw [HS.out, HA.out, HX.out]; rfl, by rw [HW.out, World.drewN_drewN]⟩
        case measure => simp [intOf]; omega
      · have HX : Hid _ := hx
        clear hx
        go_wp2
        go_quiet ((go_at_call 110; exact Calls.quiet_of_same (rwithin_any _ _ _ row _ _ _ _ (hi.drewN _))))
        rw [HX.out]
        go_wp2
        go_ret
        refine ⟨ret_bool ?_, ?_⟩
        · simp [turnsB, HR.out HX.out]
        · rw [HW.out]; exact below_drewN (below_drewN ((Below.refl _ _).alloc (Nat.le_refl _) _) _) _
    · go_wp2
      go_ret
      refine ⟨ret_bool ?_, by rw [HW.out]; exact below_drewN ((Below.refl _ _).alloc (Nat.le_refl _) _) _⟩
      have e := HL.out
      have := HA.out
      rw [List.take_of_length_le (by rw [e]; omega)] at this
      simp only [turnsB, this, e]
      simp
end Go.Proofs.YtehheaedbnfidaaGreat

namespace Go.Proofs.YtehheaedbnfidaaGreat
open Go.RowKit

set_option maxHeartbeats 1600000 in
theorem rcheck_no (c : Cf) (s : Sl) (w : World) (h : CfgAt w c s) (hn : (shapeB c && waysB c && slotsB c && turnsB c) = false) :
    Calls Tryz.prog 31 #[cfgV c s] w fun e w' => e = .returned (.int .i64 (chk c)) ∧ Below w.heap.size w w' := by
  have k0 := Kept.start w (cfgA c s) 43
  have HN : Hid _ := hn
  clear hn
  rcases Bool.eq_false_or_eq_true (shapeB c) with h1 | h1
  · obtain ⟨d1, d2, d3, d4, d5, _⟩ := shape_bounds h1
    clear d5
    rcases Bool.eq_false_or_eq_true (waysB c) with h2 | h2
    · rcases Bool.eq_false_or_eq_true (slotsB c) with h3 | h3
      · rcases Bool.eq_false_or_eq_true (turnsB c) with h4 | h4
        · have := HN.out; simp [h1, h2, h3, h4] at this
        · go_enter Tryz.func31, Tryz.ntmps31
          go_wp2_with fail
          refine (rshape_any c s _).mono ?_; rintro e w1 ⟨rfl, hb1⟩; have k1 := k0.next hb1 rfl; have q1 := k1.box
          go_wp2_with fail
          refine (rways_any c s _ (h.below k1.below (Nat.le_refl _)) d3 d4).mono ?_; rintro e w2 ⟨rfl, hb2⟩; have k2 := k1.next hb2 rfl; have q2 := k2.box
          clear q1
          go_wp2_with fail
          refine (rslots_any c s _ (h.below k2.below (Nat.le_refl _)) d3 d4).mono ?_; rintro e w3 ⟨rfl, hb3⟩; have k3 := k2.next hb3 rfl; have q3 := k3.box
          clear q2
          go_wp2_with fail
          refine (rturns_any c s _ (h.below k3.below (Nat.le_refl _))).mono ?_; rintro e w4 ⟨rfl, hb4⟩; have k4 := k3.next hb4 rfl; have q4 := k4.box
          clear q3
          go_wp2
          go_ret
          exact ⟨ret_int (by simp [chk, h1, h2, h3, h4]), k4.below⟩
      · go_enter Tryz.func31, Tryz.ntmps31
        go_wp2_with fail
        refine (rshape_any c s _).mono ?_; rintro e w1 ⟨rfl, hb1⟩; have k1 := k0.next hb1 rfl; have q1 := k1.box
        go_wp2_with fail
        refine (rways_any c s _ (h.below k1.below (Nat.le_refl _)) d3 d4).mono ?_; rintro e w2 ⟨rfl, hb2⟩; have k2 := k1.next hb2 rfl; have q2 := k2.box
        clear q1
        go_wp2_with fail
        refine (rslots_any c s _ (h.below k2.below (Nat.le_refl _)) d3 d4).mono ?_; rintro e w3 ⟨rfl, hb3⟩; have k3 := k2.next hb3 rfl; have q3 := k3.box
        clear q2
        go_wp2
        go_ret
        exact ⟨ret_int (by simp [chk, h1, h2, h3]), k3.below⟩
    · go_enter Tryz.func31, Tryz.ntmps31
      go_wp2_with fail
      refine (rshape_any c s _).mono ?_; rintro e w1 ⟨rfl, hb1⟩; have k1 := k0.next hb1 rfl; have q1 := k1.box
      go_wp2_with fail
      refine (rways_any c s _ (h.below k1.below (Nat.le_refl _)) d3 d4).mono ?_; rintro e w2 ⟨rfl, hb2⟩; have k2 := k1.next hb2 rfl; have q2 := k2.box
      clear q1
      go_wp2
      go_ret
      exact ⟨ret_int (by simp [chk, h1, h2]), k2.below⟩
  · go_enter Tryz.func31, Tryz.ntmps31
    go_wp2_with fail
    refine (rshape_any c s _).mono ?_; rintro e w1 ⟨rfl, hb1⟩; have k1 := k0.next hb1 rfl; have q1 := k1.box
    go_wp2
    go_ret
    exact ⟨ret_int (by simp [chk, h1]), k1.below⟩

set_option maxHeartbeats 1600000 in
theorem rcheck_yes (c : Cf) (s : Sl) (w : World) (h : CfgAt w c s) (h1 : shapeB c = true) (h2 : waysB c = true) (h3 : slotsB c = true) (h4 : turnsB c = true) :
    Calls Tryz.prog 31 #[cfgV c s] w fun e w' => e = .returned (.int .i64 (chk c)) ∧ Below w.heap.size w w' := by
  have k0 := Kept.start w (cfgA c s) 43
  obtain ⟨d1, d2, d3, d4, d5, _⟩ := shape_bounds h1
  have d6 : 1 ≤ c.near := by omega
  clear d5
  obtain ⟨e1, e2, e3, e4⟩ := slots_bounds h3
  obtain ⟨g1, g2⟩ := worst_bd d1 d2 e1 e2 e4
  by_cases f1 : c.flush < c.near
  · go_enter Tryz.func31, Tryz.ntmps31
    go_wp2_with fail
    refine (rshape_any c s _).mono ?_; rintro e w1 ⟨rfl, hb1⟩; have k1 := k0.next hb1 rfl; have q1 := k1.box
    go_wp2_with fail
    refine (rways_any c s _ (h.below k1.below (Nat.le_refl _)) d3 d4).mono ?_; rintro e w2 ⟨rfl, hb2⟩; have k2 := k1.next hb2 rfl; have q2 := k2.box
    clear q1
    go_wp2_with fail
    refine (rslots_any c s _ (h.below k2.below (Nat.le_refl _)) d3 d4).mono ?_; rintro e w3 ⟨rfl, hb3⟩; have k3 := k2.next hb3 rfl; have q3 := k3.box
    clear q2
    go_wp2_with fail
    refine (rturns_any c s _ (h.below k3.below (Nat.le_refl _))).mono ?_; rintro e w4 ⟨rfl, hb4⟩; have k4 := k3.next hb4 rfl; have q4 := k4.box
    clear q3
    go_wp2_with fail
    refine (rworst_any c s _ (h.below k4.below (Nat.le_refl _)) d1 d2 e1 e2 e4).mono ?_; rintro e w5 ⟨rfl, hb5⟩; have k5 := k4.next hb5 rfl; have q5 := k5.box
    clear q4
    go_wp2
    go_ret
    exact ⟨ret_int (by simp [chk, h1, h2, h3, h4, quantumB, (within_not c.flush c.near 16).2 (by omega)]), k5.below⟩
  by_cases f2 : 16 < c.flush
  · go_enter Tryz.func31, Tryz.ntmps31
    go_wp2_with fail
    refine (rshape_any c s _).mono ?_; rintro e w1 ⟨rfl, hb1⟩; have k1 := k0.next hb1 rfl; have q1 := k1.box
    go_wp2_with fail
    refine (rways_any c s _ (h.below k1.below (Nat.le_refl _)) d3 d4).mono ?_; rintro e w2 ⟨rfl, hb2⟩; have k2 := k1.next hb2 rfl; have q2 := k2.box
    clear q1
    go_wp2_with fail
    refine (rslots_any c s _ (h.below k2.below (Nat.le_refl _)) d3 d4).mono ?_; rintro e w3 ⟨rfl, hb3⟩; have k3 := k2.next hb3 rfl; have q3 := k3.box
    clear q2
    go_wp2_with fail
    refine (rturns_any c s _ (h.below k3.below (Nat.le_refl _))).mono ?_; rintro e w4 ⟨rfl, hb4⟩; have k4 := k3.next hb4 rfl; have q4 := k4.box
    clear q3
    go_wp2_with fail
    refine (rworst_any c s _ (h.below k4.below (Nat.le_refl _)) d1 d2 e1 e2 e4).mono ?_; rintro e w5 ⟨rfl, hb5⟩; have k5 := k4.next hb5 rfl; have q5 := k5.box
    clear q4
    go_wp2
    go_ret
    exact ⟨ret_int (by simp [chk, h1, h2, h3, h4, quantumB, (within_not c.flush c.near 16).2 (by omega)]), k5.below⟩
  have f3 : 1 ≤ c.flush := by omega
  have f4 : c.flush ≤ 16 := by omega
  by_cases f5 : c.quantum < worstZ c + c.flush + 1
  · go_enter Tryz.func31, Tryz.ntmps31
    go_wp2_with fail
    refine (rshape_any c s _).mono ?_; rintro e w1 ⟨rfl, hb1⟩; have k1 := k0.next hb1 rfl; have q1 := k1.box
    go_wp2_with fail
    refine (rways_any c s _ (h.below k1.below (Nat.le_refl _)) d3 d4).mono ?_; rintro e w2 ⟨rfl, hb2⟩; have k2 := k1.next hb2 rfl; have q2 := k2.box
    clear q1
    go_wp2_with fail
    refine (rslots_any c s _ (h.below k2.below (Nat.le_refl _)) d3 d4).mono ?_; rintro e w3 ⟨rfl, hb3⟩; have k3 := k2.next hb3 rfl; have q3 := k3.box
    clear q2
    go_wp2_with fail
    refine (rturns_any c s _ (h.below k3.below (Nat.le_refl _))).mono ?_; rintro e w4 ⟨rfl, hb4⟩; have k4 := k3.next hb4 rfl; have q4 := k4.box
    clear q3
    go_wp2_with fail
    refine (rworst_any c s _ (h.below k4.below (Nat.le_refl _)) d1 d2 e1 e2 e4).mono ?_; rintro e w5 ⟨rfl, hb5⟩; have k5 := k4.next hb5 rfl; have q5 := k5.box
    clear q4
    go_wp2
    go_ret
    exact ⟨ret_int (by simp [chk, h1, h2, h3, h4, quantumB, (within_not c.quantum (worstZ c + c.flush + 1) 2000).2 (by omega)]), k5.below⟩
  by_cases f6 : 2000 < c.quantum
  · go_enter Tryz.func31, Tryz.ntmps31
    go_wp2_with fail
    refine (rshape_any c s _).mono ?_; rintro e w1 ⟨rfl, hb1⟩; have k1 := k0.next hb1 rfl; have q1 := k1.box
    go_wp2_with fail
    refine (rways_any c s _ (h.below k1.below (Nat.le_refl _)) d3 d4).mono ?_; rintro e w2 ⟨rfl, hb2⟩; have k2 := k1.next hb2 rfl; have q2 := k2.box
    clear q1
    go_wp2_with fail
    refine (rslots_any c s _ (h.below k2.below (Nat.le_refl _)) d3 d4).mono ?_; rintro e w3 ⟨rfl, hb3⟩; have k3 := k2.next hb3 rfl; have q3 := k3.box
    clear q2
    go_wp2_with fail
    refine (rturns_any c s _ (h.below k3.below (Nat.le_refl _))).mono ?_; rintro e w4 ⟨rfl, hb4⟩; have k4 := k3.next hb4 rfl; have q4 := k4.box
    clear q3
    go_wp2_with fail
    refine (rworst_any c s _ (h.below k4.below (Nat.le_refl _)) d1 d2 e1 e2 e4).mono ?_; rintro e w5 ⟨rfl, hb5⟩; have k5 := k4.next hb5 rfl; have q5 := k5.box
    clear q4
    go_wp2
    go_ret
    exact ⟨ret_int (by simp [chk, h1, h2, h3, h4, quantumB, (within_not c.quantum (worstZ c + c.flush + 1) 2000).2 (by omega)]), k5.below⟩
  go_enter Tryz.func31, Tryz.ntmps31
  go_wp2_with fail
  refine (rshape_any c s _).mono ?_; rintro e w1 ⟨rfl, hb1⟩; have k1 := k0.next hb1 rfl; have q1 := k1.box
  go_wp2_with fail
  refine (rways_any c s _ (h.below k1.below (Nat.le_refl _)) d3 d4).mono ?_; rintro e w2 ⟨rfl, hb2⟩; have k2 := k1.next hb2 rfl; have q2 := k2.box
  clear q1
  go_wp2_with fail
  refine (rslots_any c s _ (h.below k2.below (Nat.le_refl _)) d3 d4).mono ?_; rintro e w3 ⟨rfl, hb3⟩; have k3 := k2.next hb3 rfl; have q3 := k3.box
  clear q2
  go_wp2_with fail
  refine (rturns_any c s _ (h.below k3.below (Nat.le_refl _))).mono ?_; rintro e w4 ⟨rfl, hb4⟩; have k4 := k3.next hb4 rfl; have q4 := k4.box
  clear q3
  go_wp2_with fail
  refine (rworst_any c s _ (h.below k4.below (Nat.le_refl _)) d1 d2 e1 e2 e4).mono ?_; rintro e w5 ⟨rfl, hb5⟩; have k5 := k4.next hb5 rfl; have q5 := k5.box
  clear q4
  go_wp2
  go_ret
  exact ⟨ret_int (by simp [chk, h1, h2, h3, h4, quantumB, (within_iff c.flush c.near 16).2 (by omega), (within_iff c.quantum (worstZ c + c.flush + 1) 2000).2 (by omega)]), k5.below⟩

theorem rcheck_any (c : Cf) (s : Sl) (w : World) (h : CfgAt w c s) :
    Calls Tryz.prog 31 #[cfgV c s] w fun e w' => e = .returned (.int .i64 (chk c)) ∧ Below w.heap.size w w' := by
  rcases Bool.eq_false_or_eq_true (shapeB c && waysB c && slotsB c && turnsB c) with hn | hn
  · simp only [Bool.and_eq_true] at hn
    exact rcheck_yes c s w h hn.1.1.1 hn.1.1.2 hn.1.2 hn.2
  · exact rcheck_no c s w h hn
end Go.Proofs.YtehheaedbnfidaaGreat
