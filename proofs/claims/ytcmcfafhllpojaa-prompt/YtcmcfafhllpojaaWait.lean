/-
  The walks of config.Wait, walls.Wait.
-/
import Derived.Test.YtcmcfafhllpojaaConf5
import Derived.Test.YtcmcfafhllpojaaRightC
import Derived.Test.YtcmcfafhllpojaaWaitC
import Derived.Test.YtcmcfafhllpojaaMathW
import Derived.Deep.QuietTactic
import Derived.BigQuiet
namespace Go.Proofs.Ytcmcfafhllpojaa
open Go.RowKit

set_option maxRecDepth 100000 in
set_option maxHeartbeats 1600000 in
theorem cwait_any (c : Cf) (s : Sl) (d t : Int) (w : World) (h : CfgAt w c s) :
    Calls Try.prog 20 #[cfgV c s, .int .i64 d, .int .i64 t] w fun e w' => e = .returned (.tuple #[.int .i64 (waitN c d t), .int .i64 (waitE c d t)]) ∧ Below w.heap.size w w' := by
  have k0 := Kept.start w (cfgA c s) 25
  by_cases hz : chk c = 0
  · have R := right_of hz
    have HS : Hid (slotsB c = true) := (chk_zero hz).2.2.1
    have d1 := R.d1
    have d2 := R.d2
    have hb : (chk c != 0) = false := by simp [hz]
    have HZ : Hid _ := hz
    clear hz
    rcases Bool.eq_false_or_eq_true (withinB d 0 (c.domains - 1)) with a3 | a3
    · have a3' := (within_iff _ _ _).1 a3
      rcases Bool.eq_false_or_eq_true (withinB t 0 10000) with a4 | a4
      · have a4' := (within_iff _ _ _).1 a4
        obtain ⟨t0, tm⟩ := a4'
        have HN : Hid _ := wait_yes HZ.out (decide_eq_true (show 0 ≤ d ∧ d < c.domains ∧ 0 ≤ t ∧ t ≤ 10000 by omega))
        have HC : Hid (0 < c.slots.count d) := owns_slot HS.out (by omega) (by omega)
        have s1 := R.s1
        have s2 := R.s2
        have l1 := R.t1
        have l2 := R.t2
        have hlen := h.slots.hlen
        have hle := h.slots.hle
        obtain ⟨wa, wl, wc, sa, sl, sc, ta, tl, tc⟩ := s
        dsimp only at *
        rw [hlen] at l1 l2
        have y1 : 0 < c.slot := by omega
        have y0 : ¬ c.slot = 0 := by omega
        have y2 : 0 ≤ t / c.slot := Int.ediv_nonneg t0 (by omega)
        have y3 : t / c.slot ≤ t := Int.ediv_le_self _ t0
        have i1 : (0 : Int) < (sl : Int) := by omega
        have i0 : ¬ (sl : Int) = 0 := by omega
        have HL : Hid _ := hlen
        have HW : Hid (∀ j : Nat, j < sl → ownZ c (t / c.slot + j) = d → (∀ i : Nat, i < j → ownZ c (t / c.slot + i) ≠ d) → waitN c d t = (t / c.slot + j) * c.slot + c.slot - 1) := fun j hj he hno => by
          rw [HN.out.2]; exact wait_at s1 t0 j (by rw [HL.out]; exact hj) he hno
        have HLast : Hid (∀ n : Nat, n + 1 = sl → (∀ i : Nat, i < n → ownZ c (t / c.slot + i) ≠ d) → ownZ c (t / c.slot + n) = d) := fun n hn hno => last_slot HC.out _ n (by rw [HL.out]; exact hn) hno
        obtain ⟨q, hq⟩ : ∃ q, t / c.slot = q := ⟨_, rfl⟩
        rw [hq] at HW HLast y2 y3
        have hslots := h.slots
        have HO : Hid (∀ k : Int, ∃ j : Nat, k % (sl : Int) = (j : Int) ∧ j < sl ∧ ownZ c k = c.slots.getD j 0) := fun k => by
          obtain ⟨j, hj, hjl⟩ := mod_nat (a := k) (n := sl) (by omega)
          refine ⟨j, hj, hjl, ?_⟩
          unfold ownZ; rw [HL.out, hj, Int.toNat_natCast]
        clear hlen a3'
        go_enter Try.func20, Try.ntmps20
        go_wp2_with fail
        refine (check_any c _ _ (h.below k0.below (Nat.le_refl _))).mono ?_; rintro e w1 ⟨rfl, hb1⟩; have k1 := k0.next hb1 rfl; have q1 := k1.box
        go_wp2_with (go_at_call 44; refine (within_any _ _ _ _).mono ?_; rintro e w' ⟨rfl, rfl⟩)
        go_loopw [9, 10] (fun k p wr => ∃ j : Nat, j < sl ∧ k = .int .i64 (q + j) ∧ p = .int .i64 (1 + j) ∧ (∀ i : Nat, i < j → ownZ c (q + i) ≠ d) ∧ Kept w wr w.heap.size (cfgA c ⟨wa, wl, wc, sa, sl, sc, ta, tl, tc⟩)) (fun _ p _ => (sl + 1 - intOf p).toNat)
        case atStart => exact ⟨0, by omega, by rw [hq]; simp, by simp, fun i hi => by omega, k1⟩
        case round =>
          obtain ⟨j, hj, rfl, rfl, hno, kr⟩ := hrel
          have HNo : Hid _ := hno
          obtain ⟨m, hm, hml, ho⟩ := HO.out (q + j)
          have hints1 := hslots.below kr.below (Nat.le_refl _)
          obtain ⟨b, off, rfl, hc⟩ := hints1.hat m hml
          have HOo : Hid _ := ho
          have p1 : 0 ≤ (q + (j : Int)) * c.slot ∧ (q + (j : Int)) * c.slot ≤ 10008 * 4 := ⟨Int.mul_nonneg (by omega) (by omega), Int.mul_le_mul (by omega) (by omega) (by omega) (by omega)⟩
          obtain ⟨p11, p12⟩ := p1
          have q0 := kr.box
          have c8 := q0 8
          have c9 := q0 9
          generalize c.slots.getD m 0 = v at *
          simp only [List.size_toArray, List.length_cons, List.length_nil, Nat.reduceAdd, Nat.reduceLT, getElem?_pos, List.getElem_toArray, List.getElem_cons_succ, List.getElem_cons_zero] at c8 c9
          clear hno ho hq q1
          rcases Bool.eq_false_or_eq_true (v == d) with a5 | a5
          · have HN2 : Hid _ := HW.out j hj (by rw [HOo.out]; simpa using a5) HNo.out
            by_cases hlt : (1 : Int) + j < sl
            · go_wp2_with fail
              go_quiet (fail)
              go_wp2
              go_ret2
              exact ⟨ret_two HN2.out.symm HN.out.1.symm, below_drewN kr.below _⟩
            · go_wp2
              go_ret2
              exact ⟨ret_two HN2.out.symm HN.out.1.symm, kr.below⟩
          · by_cases hlt : (1 : Int) + j < sl
            · go_wp2_with fail
              go_quiet (fail)
              go_wp2
              go_roundw
              case rel =>
                refine ⟨j + 1, by omega, by go_num, by go_num, fun i hi => ?_, ?_⟩
                · by_cases e : i = j
                  · subst e; rw [HOo.out]; simpa using a5
                  · exact HNo.out i (by omega)
                · exact ⟨below_drewN kr.below _, kr.box, kr.lt⟩
              case measure => simp [intOf]; omega
            · have HN2 : Hid _ := HW.out j hj (HLast.out j (by omega) HNo.out) HNo.out
              go_wp2
              go_ret2
              exact ⟨ret_two HN2.out.symm HN.out.1.symm, kr.below⟩
      · have a4' := (within_not _ _ _).1 a4
        have HN : Hid _ := wait_no HZ.out (decide_eq_false (show ¬ (0 ≤ d ∧ d < c.domains ∧ 0 ≤ t ∧ t ≤ 10000) by omega))
        clear a3' a4'
        go_enter Try.func20, Try.ntmps20
        go_wp2_with fail
        refine (check_any c s _ (h.below k0.below (Nat.le_refl _))).mono ?_; rintro e w1 ⟨rfl, hb1⟩; have k1 := k0.next hb1 rfl; have q1 := k1.box
        go_wp2_with (go_at_call 44; refine (within_any _ _ _ _).mono ?_; rintro e w' ⟨rfl, rfl⟩)
        go_ret2
        exact ⟨ret_two HN.out.2.symm HN.out.1.symm, k1.below⟩
    · have a3' := (within_not _ _ _).1 a3
      have HN : Hid _ := wait_no HZ.out (decide_eq_false (show ¬ (0 ≤ d ∧ d < c.domains ∧ 0 ≤ t ∧ t ≤ 10000) by omega))
      clear a3'
      go_enter Try.func20, Try.ntmps20
      go_wp2_with fail
      refine (check_any c s _ (h.below k0.below (Nat.le_refl _))).mono ?_; rintro e w1 ⟨rfl, hb1⟩; have k1 := k0.next hb1 rfl; have q1 := k1.box
      go_wp2_with (go_at_call 44; refine (within_any _ _ _ _).mono ?_; rintro e w' ⟨rfl, rfl⟩)
      go_ret2
      exact ⟨ret_two HN.out.2.symm HN.out.1.symm, k1.below⟩
  · have hb : (chk c != 0) = true := by simpa using hz
    have HN : Hid _ := wait_bad (d := d) (t := t) hz
    clear hz
    go_enter Try.func20, Try.ntmps20
    go_wp2_with fail
    refine (check_any c s _ (h.below k0.below (Nat.le_refl _))).mono ?_; rintro e w1 ⟨rfl, hb1⟩; have k1 := k0.next hb1 rfl; have q1 := k1.box
    go_wp2
    go_ret2
    exact ⟨ret_two HN.out.2.symm HN.out.1.symm, k1.below⟩

theorem wait_any : WaitC := by
  intro c s d t w h
  have k0 := Kept.start w (cfgA c s) 25
  go_enter Try.func8, Try.ntmps8
  go_wp2_with fail
  refine (cwait_any c s d t _ (h.below k0.below (Nat.le_refl _))).mono ?_
  rintro e w' ⟨rfl, hb⟩
  go_wp2
  go_ret2
  exact ⟨rfl, (k0.next hb rfl).below⟩
end Go.Proofs.Ytcmcfafhllpojaa
