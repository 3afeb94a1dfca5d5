/-
  The walks of config.Turn, walls.Turn.
-/
import Derived.Test.YtcmcfafhllpojaaGreatBound
import Derived.Test.YtcmcfafhllpojaaGreatTurnC
import Derived.Test.YtcmcfafhllpojaaGreatTbl
namespace Go.Proofs.YtcmcfafhllpojaaGreat
open Go.RowKit

set_option maxRecDepth 100000 in
set_option maxHeartbeats 1600000 in
theorem cturn_any (c : Cf) (s : Sl) (core t : Int) (w : World) (h : CfgAt w c s) :
    Calls Tryz.prog 138 #[cfgV c s, .int .i64 core, .int .i64 t] w fun e w' => e = .returned (.tuple #[.int .i64 (turnD c core t), .bool (turnO c core t), .int .i64 (turnE c core t)]) ∧ Below w.heap.size w w' := by
  have k0 := Kept.start w (cfgA c s) 29
  by_cases hz : chk c = 0
  · have R := right_of hz
    have c1 := R.c1
    have c2 := R.c2
    have hb : (chk c != 0) = false := by simp [hz]
    have HZ : Hid _ := hz
    clear hz
    rcases Bool.eq_false_or_eq_true (withinB core 0 (c.cores - 1)) with a1 | a1
    · have a1' := (within_iff _ _ _).1 a1
      rcases Bool.eq_false_or_eq_true (withinB t 0 10000) with a2 | a2
      · have a2' := (within_iff _ _ _).1 a2
        have HN : Hid _ := turn_yes HZ.out (decide_eq_true (show 0 ≤ core ∧ core < c.cores ∧ 0 ≤ t ∧ t ≤ 10000 by omega))
        obtain ⟨i, rfl⟩ := Int.eq_ofNat_of_zero_le (show 0 ≤ core by omega)
        rw [Int.toNat_natCast] at HN
        have hO := fun w' hw => cowner_any c s i t w' hw HZ.out (by omega) (by omega) (by omega)
        clear a1' a2'
        go_enter Tryz.func138, Tryz.ntmps138
        go_wp2_with fail
        refine (check_any c s _ (h.below k0.below (Nat.le_refl _))).mono ?_; rintro e w1 ⟨rfl, hb1⟩; have k1 := k0.next hb1 rfl; have q1 := k1.box
        go_wp2_with (go_at_call 124; refine (within_any _ _ _ _).mono ?_; rintro e w' ⟨rfl, rfl⟩)
        refine (hO _ (h.below k1.below (Nat.le_refl _))).mono ?_; rintro e w2 ⟨rfl, hb2⟩; have k2 := k1.next hb2 rfl
        go_wp2
        go_ret3
        exact ⟨ret_three HN.out.2.1.symm HN.out.2.2.symm HN.out.1.symm, k2.below⟩
      · have a2' := (within_not _ _ _).1 a2
        have HN : Hid _ := turn_no HZ.out (decide_eq_false (show ¬ (0 ≤ core ∧ core < c.cores ∧ 0 ≤ t ∧ t ≤ 10000) by omega))
        clear a1' a2'
        go_enter Tryz.func138, Tryz.ntmps138
        go_wp2_with fail
        refine (check_any c s _ (h.below k0.below (Nat.le_refl _))).mono ?_; rintro e w1 ⟨rfl, hb1⟩; have k1 := k0.next hb1 rfl; have q1 := k1.box
        go_wp2_with (go_at_call 124; refine (within_any _ _ _ _).mono ?_; rintro e w' ⟨rfl, rfl⟩)
        go_ret3
        exact ⟨ret_three HN.out.2.1.symm HN.out.2.2.symm HN.out.1.symm, k1.below⟩
    · have a1' := (within_not _ _ _).1 a1
      have HN : Hid _ := turn_no HZ.out (decide_eq_false (show ¬ (0 ≤ core ∧ core < c.cores ∧ 0 ≤ t ∧ t ≤ 10000) by omega))
      clear a1'
      go_enter Tryz.func138, Tryz.ntmps138
      go_wp2_with fail
      refine (check_any c s _ (h.below k0.below (Nat.le_refl _))).mono ?_; rintro e w1 ⟨rfl, hb1⟩; have k1 := k0.next hb1 rfl; have q1 := k1.box
      go_wp2_with (go_at_call 124; refine (within_any _ _ _ _).mono ?_; rintro e w' ⟨rfl, rfl⟩)
      go_ret3
      exact ⟨ret_three HN.out.2.1.symm HN.out.2.2.symm HN.out.1.symm, k1.below⟩
  · have hb : (chk c != 0) = true := by simpa using hz
    have HN : Hid _ := turn_bad (core := core) (t := t) hz
    clear hz
    go_enter Tryz.func138, Tryz.ntmps138
    go_wp2_with fail
    refine (check_any c s _ (h.below k0.below (Nat.le_refl _))).mono ?_; rintro e w1 ⟨rfl, hb1⟩; have k1 := k0.next hb1 rfl; have q1 := k1.box
    go_wp2
    go_ret3
    exact ⟨ret_three HN.out.2.1.symm HN.out.2.2.symm HN.out.1.symm, k1.below⟩

theorem turn_any : TurnC := by
  intro c s core t w h
  have k0 := Kept.start w (cfgA c s) 29
  go_enter Tryz.func90, Tryz.ntmps90
  go_wp2_with fail
  refine (cturn_any c s core t _ (h.below k0.below (Nat.le_refl _))).mono ?_
  rintro e w' ⟨rfl, hb⟩
  go_wp2
  go_ret3
  exact ⟨rfl, (k0.next hb rfl).below⟩
end Go.Proofs.YtcmcfafhllpojaaGreat
