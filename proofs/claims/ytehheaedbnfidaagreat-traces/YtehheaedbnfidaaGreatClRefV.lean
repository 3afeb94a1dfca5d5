/-
  The walks of wallsref's latest, victim, Victim.
-/
import Derived.Test.YtehheaedbnfidaaGreatClPackI
import Derived.Test.YtehheaedbnfidaaGreatClPackA
namespace Go.Proofs.YtehheaedbnfidaaGreat
open Go.RowKit

theorem ret_pair {j k : IntKind} {a b c d : Int} (h : a = b) (g : c = d) : Ending.returned (.tuple #[.int j a, .int k c]) = .returned (.tuple #[.int j b, .int k d]) := by rw [h, g]

set_option maxRecDepth 100000 in
set_option maxHeartbeats 800000 in
theorem rlatest_any (sa : Option Addr) (len cap : Nat) (xs : List Int) (lo hi : Int) (w : World) (h : Ints w sa len cap xs) :
    Calls Tryz.prog 104 #[.slice sa len cap, .int .i64 lo, .int .i64 hi] w fun e w' => e = .returned (.int .i64 (latestZ xs lo hi)) ∧ w' = w := by
  have hle := h.hle
  have hm := h.hmax
  unfold maxLen at hm
  have HL : Hid (xs.length = len) := h.hlen
  go_enter Tryz.func104, Tryz.ntmps104
  go_wp2
  go_loop [7] (fun i => ∃ k : Nat, k ≤ len ∧ i = .int .i64 ((k : Int) - 1) ∧ ∀ x ∈ xs.drop k, ¬ (lo ≤ x ∧ x < hi)) (fun i => (intOf i + 1).toNat)
  case atStart => exact ⟨len, Nat.le_refl _, rfl, by rw [List.drop_of_length_le (by rw [HL.out]; omega)]; simp⟩
  case round =>
    obtain ⟨k, hk, rfl, hall⟩ := hrel
    have HA : Hid _ := hall
    clear hall
    by_cases hlt : 0 < k
    · obtain ⟨k', rfl⟩ : ∃ k', k = k' + 1 := ⟨k - 1, by omega⟩
      have hk' : k' < len := by omega
      have e1 : (((k' + 1 : Nat) : Int) - 1) = (k' : Int) := by omega
      rw [e1]
      obtain ⟨b, off, rfl, hc⟩ := h.hat k' hk'
      have hkx : k' < xs.length := by rw [HL.out]; exact hk'
      have HH : Hid (lo ≤ xs.getD k' 0 ∧ xs.getD k' 0 < hi → latestZ xs lo hi = xs.getD k' 0) := fun hx => latest_hit hkx hx HA.out
      have HM : Hid (¬ (lo ≤ xs.getD k' 0 ∧ xs.getD k' 0 < hi) → ∀ x ∈ xs.drop k', ¬ (lo ≤ x ∧ x < hi)) := by
        intro hx x hxm
        rw [List.drop_eq_getElem_cons hkx] at hxm
        rcases List.mem_cons.1 hxm with hxm | hxm
        · subst hxm
          have ek : xs.getD k' 0 = xs[k'] := by simp [List.getD, hkx]
          rw [ek] at hx
          exact hx
        · exact HA.out x hxm
      generalize xs.getD k' 0 = x at *
      clear e1
      by_cases a1 : lo ≤ x
      · by_cases a2 : x < hi
        · go_wp2
          go_ret
          exact ⟨ret_int (HH.out ⟨a1, a2⟩).symm, rfl⟩
        · go_wp2
          go_round
          case rel => exact ⟨k', by omega, rfl, HM.out (by omega)⟩
          case measure => simp [intOf]
      · go_wp2
        go_round
        case rel => exact ⟨k', by omega, rfl, HM.out (by omega)⟩
        case measure => simp [intOf]
    · obtain rfl : k = 0 := by omega
      go_wp2
      go_ret
      exact ⟨ret_int (latest_none (by simpa using HA.out)).symm, rfl⟩

set_option maxRecDepth 100000 in
set_option maxHeartbeats 800000 in
theorem rvictim_one (sa : Option Addr) (len cap : Nat) (xs : List Int) (w : World) :
    Calls Tryz.prog 66 #[.int .i64 1, .slice sa len cap] w fun e w' => e = .returned (.int .i64 (victimZ 1 xs)) ∧ w' = w := by
  go_enter Tryz.func66, Tryz.ntmps66
  go_wp2
  refine wp_loop_rounds 1 ?_
  rw [rounds_succ]
  go_wp2
  go_ret
  exact ⟨rfl, rfl⟩

set_option maxRecDepth 100000 in
set_option maxHeartbeats 800000 in
theorem rvictim_two (sa : Option Addr) (len cap : Nat) (xs : List Int) (w : World) (h : Ints w sa len cap xs) :
    Calls Tryz.prog 66 #[.int .i64 2, .slice sa len cap] w fun e w' => e = .returned (.int .i64 (victimZ 2 xs)) ∧ w' = w := by
  have HZ : Hid (victimZ 2 xs = if lowHit xs 0 1 = true then 1 else 0) := rfl
  have HW : Hid (lowHit xs 0 1 = (decide (0 ≤ latestZ xs 0 2) && decide (latestZ xs 0 2 < 1))) := rfl
  have HQ := rlatest_any sa len cap xs 0 2 w h
  have HQ' : Hid _ := HQ
  clear HQ
  generalize latestZ xs 0 2 = x at *
  by_cases a1 : 0 ≤ x
  · by_cases a2 : x < 1
    · go_enter Tryz.func66, Tryz.ntmps66
      go_wp2
      refine wp_loop_rounds 2 ?_
      rw [rounds_succ]
      go_wp2_with (go_at_call 104; refine Calls.mono HQ'.out ?_; rintro e w' ⟨rfl, rfl⟩)
      rw [rounds_succ]
      go_wp2
      go_ret
      exact ⟨ret_int (by rw [HZ.out, HW.out]; simp [a1, a2]), rfl⟩
    · go_enter Tryz.func66, Tryz.ntmps66
      go_wp2
      refine wp_loop_rounds 2 ?_
      rw [rounds_succ]
      go_wp2_with (go_at_call 104; refine Calls.mono HQ'.out ?_; rintro e w' ⟨rfl, rfl⟩)
      rw [rounds_succ]
      go_wp2
      go_ret
      exact ⟨ret_int (by rw [HZ.out, HW.out]; simp [a2]), rfl⟩
  · go_enter Tryz.func66, Tryz.ntmps66
    go_wp2
    refine wp_loop_rounds 2 ?_
    rw [rounds_succ]
    go_wp2_with (go_at_call 104; refine Calls.mono HQ'.out ?_; rintro e w' ⟨rfl, rfl⟩)
    rw [rounds_succ]
    go_wp2
    go_ret
    exact ⟨ret_int (by rw [HZ.out, HW.out, decide_eq_false (show ¬ 0 ≤ x by omega)]; rfl), rfl⟩

/-- The last half: y is what was touched last of the two ways lo, lo + 1. -/
theorem low_one {xs : List Int} {lo y : Int} (hy : latestZ xs lo (lo + 2) = y) : lowHit xs lo 1 = (decide (0 ≤ y) && decide (y < lo + 1)) := by
  unfold lowHit
  rw [show lo + (1 + 1) = lo + 2 by omega, hy]

set_option maxRecDepth 100000 in
set_option maxHeartbeats 1600000 in
theorem rvictim_four (sa : Option Addr) (len cap : Nat) (xs : List Int) (w : World) (h : Ints w sa len cap xs) :
    Calls Tryz.prog 66 #[.int .i64 4, .slice sa len cap] w fun e w' => e = .returned (.int .i64 (victimZ 4 xs)) ∧ w' = w := by
  have HZ : Hid (victimZ 4 xs = if lowHit xs 0 2 = true then (if lowHit xs 2 1 = true then 3 else 2) else (if lowHit xs 0 1 = true then 1 else 0)) := rfl
  have HW : lowHit xs 0 2 = (decide (0 ≤ latestZ xs 0 4) && decide (latestZ xs 0 4 < 2)) := rfl
  have bx := latest_bd xs 0 4 (by omega) (by omega)
  have HQ : Hid _ := rlatest_any sa len cap xs 0 4 w h
  obtain ⟨x, hx⟩ : ∃ x, latestZ xs 0 4 = x := ⟨_, rfl⟩
  rw [hx] at HW HQ bx
  obtain ⟨bx1, bx2⟩ := bx
  clear hx
  by_cases a1 : 0 ≤ x ∧ x < 2
  · obtain ⟨a1, a2⟩ := a1
    have by1 := latest_bd xs 2 4 (by omega) (by omega)
    have HR : Hid _ := rlatest_any sa len cap xs 2 4 w h
    obtain ⟨y, hy⟩ : ∃ y, latestZ xs 2 4 = y := ⟨_, rfl⟩
    have HY := low_one (xs := xs) (lo := 2) (y := y) hy
    rw [hy] at HR by1
    obtain ⟨by1, by2⟩ := by1
    have e1 : lowHit xs 0 2 = true := by rw [HW, decide_eq_true a1, decide_eq_true a2]; rfl
    by_cases a3 : 0 ≤ y ∧ y < 2 + 1
    · have HV : Hid (victimZ 4 xs = 3) := by
        unfold Hid; rw [HZ.out, e1, HY, decide_eq_true a3.1, decide_eq_true a3.2]; rfl
      obtain ⟨a3, a4⟩ := a3
      have a4' : y < 3 := by omega
      clear hy HY HW e1
      go_enter Tryz.func66, Tryz.ntmps66
      go_wp2
      refine wp_loop_rounds 3 ?_
      rw [rounds_succ]
      go_wp2_with (go_at_call 104; refine Calls.mono HQ.out ?_; rintro e w' ⟨rfl, rfl⟩)
      rw [rounds_succ]
      go_wp2_with (go_at_call 104; refine Calls.mono HR.out ?_; rintro e w' ⟨rfl, rfl⟩)
      rw [rounds_succ]
      go_wp2
      go_ret
      exact ⟨ret_int HV.out.symm, rfl⟩
    · have HV : Hid (victimZ 4 xs = 2) := by
        unfold Hid
        rw [HZ.out, e1, HY]
        by_cases b1 : 0 ≤ y
        · rw [decide_eq_false (show ¬ y < 2 + 1 by omega)]; simp
        · rw [decide_eq_false b1]; rfl
      clear hy HY HW e1
      by_cases b1 : 0 ≤ y
      · have b2 : ¬ y < 3 := by omega
        go_enter Tryz.func66, Tryz.ntmps66
        go_wp2
        refine wp_loop_rounds 3 ?_
        rw [rounds_succ]
        go_wp2_with (go_at_call 104; refine Calls.mono HQ.out ?_; rintro e w' ⟨rfl, rfl⟩)
        rw [rounds_succ]
        go_wp2_with (go_at_call 104; refine Calls.mono HR.out ?_; rintro e w' ⟨rfl, rfl⟩)
        rw [rounds_succ]
        go_wp2
        go_ret
        exact ⟨ret_int HV.out.symm, rfl⟩
      · clear a3
        go_enter Tryz.func66, Tryz.ntmps66
        go_wp2
        refine wp_loop_rounds 3 ?_
        rw [rounds_succ]
        go_wp2_with (go_at_call 104; refine Calls.mono HQ.out ?_; rintro e w' ⟨rfl, rfl⟩)
        rw [rounds_succ]
        go_wp2_with (go_at_call 104; refine Calls.mono HR.out ?_; rintro e w' ⟨rfl, rfl⟩)
        rw [rounds_succ]
        go_wp2
        go_ret
        exact ⟨ret_int HV.out.symm, rfl⟩
  · have by1 := latest_bd xs 0 2 (by omega) (by omega)
    have HR : Hid _ := rlatest_any sa len cap xs 0 2 w h
    obtain ⟨y, hy⟩ : ∃ y, latestZ xs 0 2 = y := ⟨_, rfl⟩
    have HY := low_one (xs := xs) (lo := 0) (y := y) hy
    rw [hy] at HR by1
    obtain ⟨by1, by2⟩ := by1
    have e1 : lowHit xs 0 2 = false := by
      rw [HW]
      by_cases b1 : 0 ≤ x
      · rw [decide_eq_false (show ¬ x < 2 by omega)]; simp
      · rw [decide_eq_false b1]; rfl
    have HV : Hid (victimZ 4 xs = if (decide (0 ≤ y) && decide (y < 0 + 1)) = true then 1 else 0) := by
      unfold Hid; rw [HZ.out, e1, HY]; rfl
    clear hy HY HW e1 HZ
    have cases : (x < 0 ∨ (0 ≤ x ∧ 2 ≤ x)) ∧ (y < 0 ∨ (0 ≤ y ∧ y < 1) ∨ (0 ≤ y ∧ 1 ≤ y)) := by omega
    clear a1
    have HV0 : y < 0 → Hid (victimZ 4 xs = 0) := fun hh => by unfold Hid; rw [HV.out, decide_eq_false (show ¬ 0 ≤ y by omega)]; rfl
    have HV1 : 0 ≤ y → y < 1 → Hid (victimZ 4 xs = 1) := fun hh hg => by unfold Hid; rw [HV.out, decide_eq_true hh, decide_eq_true (show y < 0 + 1 by omega)]; rfl
    have HV2 : 1 ≤ y → Hid (victimZ 4 xs = 0) := fun hh => by unfold Hid; rw [HV.out, decide_eq_false (show ¬ y < 0 + 1 by omega)]; simp
    clear HV
    obtain ⟨c1, c2⟩ := cases
    rcases c2 with c2 | ⟨c2, c3⟩ | ⟨c2, c3⟩
    · have HV := HV0 c2
      clear HV0 HV1 HV2
      rcases c1 with c1 | ⟨c1, c4⟩
      all_goals
        go_enter Tryz.func66, Tryz.ntmps66
        go_wp2
        refine wp_loop_rounds 3 ?_
        rw [rounds_succ]
        go_wp2_with (go_at_call 104; refine Calls.mono HQ.out ?_; rintro e w' ⟨rfl, rfl⟩)
        rw [rounds_succ]
        go_wp2_with (go_at_call 104; refine Calls.mono HR.out ?_; rintro e w' ⟨rfl, rfl⟩)
        rw [rounds_succ]
        go_wp2
        go_ret
        exact ⟨ret_int HV.out.symm, rfl⟩
    · have HV := HV1 c2 c3
      clear HV0 HV1 HV2
      rcases c1 with c1 | ⟨c1, c4⟩
      all_goals
        go_enter Tryz.func66, Tryz.ntmps66
        go_wp2
        refine wp_loop_rounds 3 ?_
        rw [rounds_succ]
        go_wp2_with (go_at_call 104; refine Calls.mono HQ.out ?_; rintro e w' ⟨rfl, rfl⟩)
        rw [rounds_succ]
        go_wp2_with (go_at_call 104; refine Calls.mono HR.out ?_; rintro e w' ⟨rfl, rfl⟩)
        rw [rounds_succ]
        go_wp2
        go_ret
        exact ⟨ret_int HV.out.symm, rfl⟩
    · have HV := HV2 c3
      clear HV0 HV1 HV2
      rcases c1 with c1 | ⟨c1, c4⟩
      all_goals
        go_enter Tryz.func66, Tryz.ntmps66
        go_wp2
        refine wp_loop_rounds 3 ?_
        rw [rounds_succ]
        go_wp2_with (go_at_call 104; refine Calls.mono HQ.out ?_; rintro e w' ⟨rfl, rfl⟩)
        rw [rounds_succ]
        go_wp2_with (go_at_call 104; refine Calls.mono HR.out ?_; rintro e w' ⟨rfl, rfl⟩)
        rw [rounds_succ]
        go_wp2
        go_ret
        exact ⟨ret_int HV.out.symm, rfl⟩

theorem rvictim_any (n : Int) (sa : Option Addr) (len cap : Nat) (xs : List Int) (w : World) (h : Ints w sa len cap xs) (hn : smallB n = true) :
    Calls Tryz.prog 66 #[.int .i64 n, .slice sa len cap] w fun e w' => e = .returned (.int .i64 (victimZ n xs)) ∧ w' = w := by
  rcases (small_iff n).1 hn with rfl | rfl | rfl
  · exact rvictim_one sa len cap xs w
  · exact rvictim_two sa len cap xs w h
  · exact rvictim_four sa len cap xs w h
end Go.Proofs.YtehheaedbnfidaaGreat
