/-
  The walks of package config: Check, its second half.
-/
import Derived.Test.YtcmcfafhllpojaaGreatConf
import Derived.Deep.RegionWith
namespace Go.Proofs.YtcmcfafhllpojaaGreat
open Go.RowKit

set_option maxHeartbeats 400000 in
theorem slots_any (c : Cf) (s : Sl) (w : World) (h : CfgAt w c s) (hd1 : 1 ≤ c.domains) (hd2 : c.domains ≤ 4) :
    Calls Tryz.prog 69 #[cfgV c s] w fun e w' => e = .returned (.bool (slotsB c)) ∧ Below w.heap.size w w' := by
  have hl := (h.slots.alloc (.cells (cfgA c s) 29))
  rcases Bool.eq_false_or_eq_true (withinB c.slot 1 4) with hs | hs
  · rcases Bool.eq_false_or_eq_true (listB c.slots 8 0 (c.domains - 1)) with ht | ht
    · go_enter Tryz.func69, Tryz.ntmps69
      go_wp2_with (first | (go_at_call 124; refine (within_any _ _ _ _).mono ?_; rintro e w' ⟨rfl, rfl⟩) | (go_at_call 127; refine (list_any _ _ _ c.slots _ _ _ _ hl).mono ?_; rintro e w' ⟨rfl, rfl⟩))
      go_loop [3] (fun i => ∃ k : Nat, (k : Int) ≤ c.domains ∧ i = .int .i64 k ∧ allUpto (fun d => !((c.slots.count d : Int) == 0)) k = true) (fun i => c.domains.toNat - (intOf i).toNat)
      case atStart => exact ⟨0, by omega, rfl, rfl⟩
      case round =>
        obtain ⟨k, hk, rfl, hall⟩ := hrel
        have HA : Hid _ := hall
        clear hall
        by_cases hlt : (k : Int) < c.domains
        · rcases Bool.eq_false_or_eq_true ((c.slots.count (k : Int) : Int) == 0) with hx | hx
          · go_wp2_with (go_at_call 128; refine (count_any _ _ _ c.slots _ _ hl).mono ?_; rintro e w' ⟨rfl, rfl⟩)
            go_ret
            exact ⟨ret_bool (by simp [slotsB, allUpto_false (fun d => !((c.slots.count d : Int) == 0)) k (by simpa using hx) c.domains.toNat (by omega)]), (Below.refl _ _).alloc (Nat.le_refl _) _⟩
          · go_wp2_with (go_at_call 128; refine (count_any _ _ _ c.slots _ _ hl).mono ?_; rintro e w' ⟨rfl, rfl⟩)
            go_round
            case rel => exact ⟨k + 1, by omega, by go_num, by simp only [allUpto, HA.out, hx]; rfl⟩
            case measure => simp [intOf]; omega
        · go_wp2
          go_ret
          have e : k = c.domains.toNat := by omega
          have := HA.out
          rw [e] at this
          exact ⟨ret_bool (by simp only [slotsB, hs, ht, this]; rfl), (Below.refl _ _).alloc (Nat.le_refl _) _⟩
    · go_enter Tryz.func69, Tryz.ntmps69
      go_wp2_with (first | (go_at_call 124; refine (within_any _ _ _ _).mono ?_; rintro e w' ⟨rfl, rfl⟩) | (go_at_call 127; refine (list_any _ _ _ c.slots _ _ _ _ hl).mono ?_; rintro e w' ⟨rfl, rfl⟩))
      go_ret
      exact ⟨ret_bool (by simp [slotsB, ht]), (Below.refl _ _).alloc (Nat.le_refl _) _⟩
  · go_enter Tryz.func69, Tryz.ntmps69
    go_wp2_with (go_at_call 124; refine (within_any _ _ _ _).mono ?_; rintro e w' ⟨rfl, rfl⟩)
    go_ret
    exact ⟨ret_bool (by simp [slotsB, hs]), (Below.refl _ _).alloc (Nat.le_refl _) _⟩

set_option maxHeartbeats 400000 in
theorem worst_any (c : Cf) (s : Sl) (w : World) (h : CfgAt w c s) (h1 : 1 ≤ c.cores) (h2 : c.cores ≤ 3) (h3 : 1 ≤ c.slot) (h4 : c.slot ≤ 4) (h5 : c.slots.length ≤ 8) :
    Calls Tryz.prog 35 #[cfgV c s] w fun e w' => e = .returned (.int .i64 (worstZ c)) ∧ Below w.heap.size w w' := by
  have hl := h.slots.hlen
  have b1 : (3 * c.cores) * (s.sl : Int) ≤ 72 ∧ 0 ≤ (3 * c.cores) * (s.sl : Int) := by
    constructor
    · have : (3 * c.cores) * (s.sl : Int) ≤ 9 * 8 := Int.mul_le_mul (by omega) (by omega) (by omega) (by omega)
      omega
    · exact Int.mul_nonneg (by omega) (by omega)
  obtain ⟨b2, b3⟩ := b1
  have b4 : (3 * c.cores) * (s.sl : Int) * c.slot ≤ 288 := by
    have : (3 * c.cores) * (s.sl : Int) * c.slot ≤ 72 * 4 := Int.mul_le_mul (by omega) (by omega) (by omega) (by omega)
    omega
  have b5 : 0 ≤ (3 * c.cores) * (s.sl : Int) * c.slot := Int.mul_nonneg (by omega) (by omega)
  have HE : Hid (worstZ c = 3 * c.cores * s.sl * c.slot) := by unfold worstZ Hid; rw [hl]
  clear hl
  go_enter Tryz.func35, Tryz.ntmps35
  go_wp2
  go_ret
  exact ⟨ret_int (by rw [HE.out]), (Below.refl _ _).alloc (Nat.le_refl _) _⟩
end Go.Proofs.YtcmcfafhllpojaaGreat
