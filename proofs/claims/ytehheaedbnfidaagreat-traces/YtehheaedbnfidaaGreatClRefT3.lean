/-
  The walks of wallsref's wait, Wait.
-/
import Derived.Test.YtehheaedbnfidaaGreatClRefT2
namespace Go.Proofs.YtehheaedbnfidaaGreat
open Go.RowKit

set_option maxRecDepth 100000 in
set_option maxHeartbeats 1600000 in
theorem rwait_any (c : Cf) (s : Sl) (d t : Int) (w : World) (h : CfgAt w c s) (R : Right c) (t0 : 0 ≤ t) (t1 : t ≤ 50000) :
    Calls Tryz.prog 83 #[cfgV c s, .int .i64 d, .int .i64 t] w fun e w' => e = .returned (.int .i64 (waitZ c d t)) ∧ Below w.heap.size w w' := by
  have k0 := Kept.start w (cfgA c s) 43
  have s1 := R.s1
  have s2 := R.s2
  have hlen := h.slots.hlen
  have l1 := R.t1
  have l2 := R.t2
  have hz : waitZ c d t = firstF (servesB c d) ((s.sl : Int) * c.slot).toNat t := by unfold waitZ; rw [hlen]
  rw [hlen] at l1 l2
  have p1 : 0 ≤ (s.sl : Int) * c.slot ∧ (s.sl : Int) * c.slot ≤ 8 * 4 := ⟨Int.mul_nonneg (by omega) (by omega), Int.mul_le_mul (by omega) (by omega) (by omega) (by omega)⟩
  obtain ⟨n, hn⟩ := Int.eq_ofNat_of_zero_le p1.1
  rw [hn, Int.toNat_natCast] at hz
  rw [hn] at p1
  have n32 : n ≤ 32 := by omega
  have HZ : Hid _ := hz
  have HL : Hid _ := hlen
  clear hz hlen p1
  go_enter Tryz.func83, Tryz.ntmps83
  go_wp2
  go_loopw [7] (fun u wr => ∃ j : Nat, j ≤ n ∧ u = .int .i64 (t + j) ∧ waitZ c d t = firstF (servesB c d) (n - j) (t + j) ∧ Kept w wr w.heap.size (cfgA c s)) (fun u _ => (t + n - intOf u).toNat)
  case atStart => exact ⟨0, by omega, by simp, by simpa using HZ.out, k0⟩
  case round =>
    obtain ⟨j, hj, rfl, hf, hk⟩ := hrel
    have HF : Hid _ := hf
    have q1 := hk.box
    clear hf
    by_cases hlt : j < n
    · have hlt' : (j : Int) < (n : Int) := by omega
      rcases Bool.eq_false_or_eq_true (servesB c d (t + j)) with a1 | a1
      · go_wp2_with fail
        refine (rserves_any c s d (t + j) _ (h.below hk.below (Nat.le_refl _)) R (by omega) (by omega)).mono ?_; rintro e w1 ⟨rfl, hb1⟩; have k1 := hk.next hb1 rfl
        clear q1
        rw [a1]
        go_wp2
        go_ret
        refine ⟨ret_int ?_, k1.below⟩
        rw [HF.out, firstF_hit a1 _ (by omega)]
      · go_wp2_with fail
        refine (rserves_any c s d (t + j) _ (h.below hk.below (Nat.le_refl _)) R (by omega) (by omega)).mono ?_; rintro e w1 ⟨rfl, hb1⟩; have k1 := hk.next hb1 rfl
        clear q1
        rw [a1]
        go_wp2
        go_roundw
        case rel =>
          refine ⟨j + 1, by omega, by go_num, ?_, k1⟩
          have e : n - j = (n - (j + 1)) + 1 := by omega
          rw [HF.out, e, firstF_miss a1, show t + (j : Int) + 1 = t + ((j + 1 : Nat) : Int) by omega]
        case measure => simp [intOf]; omega
    · have ej : j = n := by omega
      subst ej
      go_wp2
      go_ret
      refine ⟨ret_int ?_, hk.below⟩
      rw [HF.out, Nat.sub_self]
      rfl

set_option maxRecDepth 100000 in
set_option maxHeartbeats 1600000 in
theorem rWait_any (c : Cf) (s : Sl) (d t : Int) (w : World) (h : CfgAt w c s) :
    Calls Tryz.prog 42 #[cfgV c s, .int .i64 d, .int .i64 t] w fun e w' => e = .returned (.tuple #[.int .i64 (waitN c d t), .int .i64 (waitE c d t)]) ∧ Below w.heap.size w w' := by
  have k0 := Kept.start w (cfgA c s) 43
  by_cases hz : chk c = 0
  · have hb : (chk c != 0) = false := by simp [hz]
    have R := right_of hz
    have d2 := R.d2
    by_cases hok : 0 ≤ d ∧ d < c.domains ∧ 0 ≤ t ∧ t ≤ 10000
    · have HN : Hid _ := wait_yes (c := c) (d := d) (t := t) hz (decide_eq_true hok)
      obtain ⟨a1, a2, a3, a4⟩ := hok
      clear hz
      go_enter Tryz.func42, Tryz.ntmps42
      go_wp2_with fail
      refine (rcheck_any c s _ (h.below k0.below (Nat.le_refl _))).mono ?_; rintro e w1 ⟨rfl, hb1⟩; have k1 := k0.next hb1 rfl; have p1 := k1.box
      go_wp2_with fail
      refine (rwait_any c s d t _ (h.below k1.below (Nat.le_refl _)) R a3 (by omega)).mono ?_; rintro e w2 ⟨rfl, hb2⟩; have k2 := k1.next hb2 rfl
      clear p1
      go_wp2
      go_ret2
      exact ⟨ret_two HN.out.2.symm HN.out.1.symm, k2.below⟩
    · have HN : Hid _ := wait_no (c := c) (d := d) (t := t) hz (decide_eq_false hok)
      clear hz
      have cases : d < 0 ∨ (0 ≤ d ∧ c.domains ≤ d) ∨ (0 ≤ d ∧ d < c.domains ∧ t < 0) ∨ (0 ≤ d ∧ d < c.domains ∧ 0 ≤ t ∧ 10000 < t) := by omega
      clear hok
      rcases cases with a1 | ⟨a1, a2⟩ | ⟨a1, a2, a3⟩ | ⟨a1, a2, a3, a4⟩
      all_goals
        go_enter Tryz.func42, Tryz.ntmps42
        go_wp2_with fail
        refine (rcheck_any c s _ (h.below k0.below (Nat.le_refl _))).mono ?_
        rintro e w1 ⟨rfl, hb1⟩
        have k1 := k0.next hb1 rfl
        have p1 := k1.box
        go_wp2
        go_ret2
        exact ⟨ret_two HN.out.2.symm HN.out.1.symm, k1.below⟩
  · have hb : (chk c != 0) = true := by simpa using hz
    have HN : Hid _ := wait_bad (d := d) (t := t) hz
    clear hz
    go_enter Tryz.func42, Tryz.ntmps42
    go_wp2_with fail
    refine (rcheck_any c s _ (h.below k0.below (Nat.le_refl _))).mono ?_; rintro e w1 ⟨rfl, hb1⟩; have k1 := k0.next hb1 rfl; have p1 := k1.box
    go_wp2
    go_ret2
    exact ⟨ret_two HN.out.2.symm HN.out.1.symm, k1.below⟩
end Go.Proofs.YtehheaedbnfidaaGreat
