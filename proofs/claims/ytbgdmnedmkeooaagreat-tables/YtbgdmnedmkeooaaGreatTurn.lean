/-
  The walks of config.Turn, walls.Turn.
-/
import Derived.Test.YtbgdmnedmkeooaaGreatBound
import Derived.Test.YtbgdmnedmkeooaaGreatTurnC
import Derived.Deep.QuietTactic
import Derived.BigQuiet
namespace Go.Proofs.YtbgdmnedmkeooaaGreat
open Go.RowKit

set_option maxRecDepth 100000 in
set_option maxHeartbeats 1600000 in
theorem cturn_any (c : Cf) (s : Sl) (core t : Int) (w : World) (h : CfgAt w c s) :
    Calls Tryz.prog 77 #[cfgV c s, .int .i64 core, .int .i64 t] w fun e w' => e = .returned (.tuple #[.int .i64 (turnD c core t), .bool (turnO c core t), .int .i64 (turnE c core t)]) ∧ Below w.heap.size w w' := by
  have k0 := Kept.start w (cfgA c s) 43
  have htl := h.turns.hlen
  have htle := h.turns.hle
  have htm := h.turns.hmax
  unfold maxLen at htm
  by_cases hz : chk c = 0
  · have R := right_of hz
    obtain ⟨c1, c2, d1, d2, s1, s2, t1, t2, w0, w1, f1, f2, q1, q2, tl, each⟩ := R
    have R := right_of hz
    have hb : (chk c != 0) = false := by simp [hz]
    have HZ : Hid _ := hz
    have tl' : (s.tl : Int) = c.cores := by rw [← htl]; exact tl
    have HT : Hid _ := tl'
    have HTL : Hid _ := htl
    have tl3 : s.tl ≤ 3 := by omega
    clear hz tl each htl
    by_cases a1 : core < 0
    · have HN : Hid _ := turn_no HZ.out (decide_eq_false (show ¬ (0 ≤ core ∧ core < c.cores ∧ 0 ≤ t ∧ t ≤ 10000) by omega))
      clear tl'
      go_enter Tryz.func77, Tryz.ntmps77
      go_wp2_with fail
      refine (check_any c s _ (h.below k0.below (Nat.le_refl _))).mono ?_; rintro e w1 ⟨rfl, hb1⟩; have k1 := k0.next hb1 rfl; have q1 := k1.box
      go_wp2
      go_ret3
      exact ⟨ret_three HN.out.2.1.symm HN.out.2.2.symm HN.out.1.symm, k1.below⟩
    by_cases a2 : (s.tl : Int) ≤ core
    · have HN : Hid _ := turn_no HZ.out (decide_eq_false (show ¬ (0 ≤ core ∧ core < c.cores ∧ 0 ≤ t ∧ t ≤ 10000) by omega))
      clear tl'
      go_enter Tryz.func77, Tryz.ntmps77
      go_wp2_with fail
      refine (check_any c s _ (h.below k0.below (Nat.le_refl _))).mono ?_; rintro e w1 ⟨rfl, hb1⟩; have k1 := k0.next hb1 rfl; have q1 := k1.box
      go_wp2
      go_ret3
      exact ⟨ret_three HN.out.2.1.symm HN.out.2.2.symm HN.out.1.symm, k1.below⟩
    rcases Bool.eq_false_or_eq_true (withinB t 0 10000) with a4 | a4
    · have a4' := (within_iff _ _ _).1 a4
      obtain ⟨t0, tm⟩ := a4'
      have HN : Hid _ := turn_yes HZ.out (decide_eq_true (show 0 ≤ core ∧ core < c.cores ∧ 0 ≤ t ∧ t ≤ 10000 by omega))
      obtain ⟨i, rfl⟩ := Int.eq_ofNat_of_zero_le (show 0 ≤ core by omega)
      rw [Int.toNat_natCast] at HN
      have hi : i < s.tl := by omega
      obtain ⟨b, off, ia, il, ic, hta, hc, hints⟩ := h.turns.hat i hi
      have hrow := grid_row R (show i < c.turns.length by rw [HTL.out]; exact hi)
      have hlen := hints.hlen
      have ile := hints.hle
      have hil : il ≤ 4 := by omega
      have hil0 : 1 ≤ il := by omega
      have hbd := cell_lt hc
      have HBD : b < w.heap.size := hbd
      obtain ⟨wa, wl, wc, sa, sl, sc, ta, tl, tc⟩ := s
      dsimp only at *
      subst hta
      have hz : turnZ c i t = (c.turns.getD i []).getD (t / c.quantum % ((c.turns.getD i []).length : Int)).toNat 0 := rfl
      rw [hlen] at hz
      obtain ⟨j, hj, hjl⟩ := mod_nat (a := t / c.quantum) (n := il) (by omega)
      rw [hj, Int.toNat_natCast] at hz
      obtain ⟨b2, off2, hia, hc2⟩ := hints.hat j hjl
      subst hia
      have HZ2 : Hid _ := hz
      have HBD2 : b2 < w.heap.size := cell_lt hc2
      have y1 : 0 < c.quantum := by omega
      have y2 : 0 ≤ t / c.quantum := Int.ediv_nonneg t0 (by omega)
      have y3 : t / c.quantum ≤ t := Int.ediv_le_self _ t0
      have i1 : (0 : Int) < (il : Int) := by omega
      have HO : Hid (openB c i (turnZ c i t) t = (decide (0 ≤ turnZ c i t) && decide (t % c.quantum < c.quantum - c.flush - worstZ c))) := by
        unfold Hid openB; simp
      rw [hz] at HO HN
      generalize (c.turns.getD i []).getD j 0 = v at *
      clear hz hlen hbd hrow tl'
      by_cases a5 : 0 ≤ v
      · have HO2 : Hid (openB c i v t = decide (t % c.quantum < c.quantum - c.flush - worstZ c)) := by
          unfold Hid; rw [HO.out, decide_eq_true a5]; rfl
        go_enter Tryz.func77, Tryz.ntmps77
        go_wp2_with fail
        refine (check_any c _ _ (h.below k0.below (Nat.le_refl _))).mono ?_; rintro e w1 ⟨rfl, hb1⟩; have k1 := k0.next hb1 rfl; have q1 := k1.box
        have hc1 : w1.cell? ⟨b, off + i, none⟩ = some (.slice (some ⟨b2, off2, none⟩) il ic) := by rw [k1.below.cell (p := ⟨b, off + i, none⟩) HBD]; exact hc
        have hc21 : w1.cell? ⟨b2, off2 + j, none⟩ = some (.int .i64 v) := by rw [k1.below.cell (p := ⟨b2, off2 + j, none⟩) HBD2]; exact hc2
        go_wp2_with (go_at_call 101; refine (within_any _ _ _ _).mono ?_; rintro e w' ⟨rfl, rfl⟩)
        have cf := (h.below k1.below (Nat.le_refl _)).drew
        have k1d := k1.drew
        go_region_with (go_at_call 74; refine (worst_any c _ _ cf R.c1 R.c2 R.s1 R.s2 R.t2).mono ?_; rintro e w2 ⟨rfl, hb2⟩; have k2 := k1d.next hb2 rfl; have q2 := k2.box)
        all_goals go_wp2
        all_goals go_ret3
        all_goals exact ⟨ret_three HN.out.2.1.symm (HO2.out.symm.trans HN.out.2.2.symm) HN.out.1.symm, k2.below⟩
      · have HO2 : Hid (openB c i v t = false) := by
          unfold Hid; rw [HO.out, decide_eq_false a5]; rfl
        have a5' : decide (0 ≤ v) = false := decide_eq_false a5
        go_enter Tryz.func77, Tryz.ntmps77
        go_wp2_with fail
        refine (check_any c _ _ (h.below k0.below (Nat.le_refl _))).mono ?_; rintro e w1 ⟨rfl, hb1⟩; have k1 := k0.next hb1 rfl; have q1 := k1.box
        have hc1 : w1.cell? ⟨b, off + i, none⟩ = some (.slice (some ⟨b2, off2, none⟩) il ic) := by rw [k1.below.cell (p := ⟨b, off + i, none⟩) HBD]; exact hc
        have hc21 : w1.cell? ⟨b2, off2 + j, none⟩ = some (.int .i64 v) := by rw [k1.below.cell (p := ⟨b2, off2 + j, none⟩) HBD2]; exact hc2
        go_wp2_with (go_at_call 101; refine (within_any _ _ _ _).mono ?_; rintro e w' ⟨rfl, rfl⟩)
        go_quiet (fail)
        go_wp2
        go_ret3
        exact ⟨ret_three HN.out.2.1.symm (HO2.out.symm.trans HN.out.2.2.symm) HN.out.1.symm, below_drewN k1.below _⟩
    · have a4' := (within_not _ _ _).1 a4
      have HN : Hid _ := turn_no HZ.out (decide_eq_false (show ¬ (0 ≤ core ∧ core < c.cores ∧ 0 ≤ t ∧ t ≤ 10000) by omega))
      clear tl' a4'
      go_enter Tryz.func77, Tryz.ntmps77
      go_wp2_with fail
      refine (check_any c s _ (h.below k0.below (Nat.le_refl _))).mono ?_; rintro e w1 ⟨rfl, hb1⟩; have k1 := k0.next hb1 rfl; have q1 := k1.box
      go_wp2_with (go_at_call 101; refine (within_any _ _ _ _).mono ?_; rintro e w' ⟨rfl, rfl⟩)
      go_ret3
      exact ⟨ret_three HN.out.2.1.symm HN.out.2.2.symm HN.out.1.symm, k1.below⟩
  · have hb : (chk c != 0) = true := by simpa using hz
    have HN : Hid _ := turn_bad (core := core) (t := t) hz
    clear hz
    go_enter Tryz.func77, Tryz.ntmps77
    go_wp2_with fail
    refine (check_any c s _ (h.below k0.below (Nat.le_refl _))).mono ?_; rintro e w1 ⟨rfl, hb1⟩; have k1 := k0.next hb1 rfl; have q1 := k1.box
    go_wp2
    go_ret3
    exact ⟨ret_three HN.out.2.1.symm HN.out.2.2.symm HN.out.1.symm, k1.below⟩

theorem turn_any : TurnC := by
  intro c s core t w h
  have k0 := Kept.start w (cfgA c s) 43
  go_enter Tryz.func39, Tryz.ntmps39
  go_wp2_with fail
  refine (cturn_any c s core t _ (h.below k0.below (Nat.le_refl _))).mono ?_
  rintro e w' ⟨rfl, hb⟩
  go_wp2
  go_ret3
  exact ⟨rfl, (k0.next hb rfl).below⟩
end Go.Proofs.YtbgdmnedmkeooaaGreat
