/-
  The walks of ways.lastTouched, ways.Victim, walls.Victim.
-/
import Derived.Test.YtehheaedbnfidaaGreatClPackA
namespace Go.Proofs.YtehheaedbnfidaaGreat
open Go.RowKit

theorem ret_vic {j k : IntKind} {a b c d : Int} (h : a = b) (g : c = d) : Ending.returned (.tuple #[.int j a, .int k c]) = .returned (.tuple #[.int j b, .int k d]) := by rw [h, g]

set_option maxRecDepth 100000 in
set_option maxHeartbeats 800000 in
theorem last_any (sa : Option Addr) (len cap : Nat) (xs : List Int) (lo hi : Int) (w : World) (h : Ints w sa len cap xs) :
    Calls Tryz.prog 103 #[.slice sa len cap, .int .i64 lo, .int .i64 hi] w fun e w' => e = .returned (.int .i64 (latestZ xs lo hi)) ∧ w' = w := by
  have hle := h.hle
  have hm := h.hmax
  unfold maxLen at hm
  have HL : Hid (xs.length = len) := h.hlen
  go_enter Tryz.func103, Tryz.ntmps103
  go_wp2
  go_loop [7] (fun i => ∃ k : Nat, k ≤ len ∧ i = .int .i64 ((k : Int) - 1) ∧ ∀ x ∈ xs.drop k, ¬ (lo ≤ x ∧ x < hi)) (fun i => (intOf i + 1).toNat)
  case atStart => exact ⟨len, Nat.le_refl _, rfl, by rw [List.drop_of_length_le (by rw [HL.out]; omega)]; simp⟩
  case round =>
    obtain ⟨k, hk, rfl, hall⟩ := hrel
    have HA : Hid _ := hall
    clear hall
    by_cases hlt : 0 < k
    · obtain ⟨k', rfl⟩ : ∃ k', k = k' + 1 := ⟨k - 1, by omega⟩
      have hk' : k' < len := by omega
      have e1 : (((k' + 1 : Nat) : Int) - 1) = (k' : Int) := by omega
      rw [e1]
      obtain ⟨b, off, rfl, hc⟩ := h.hat k' hk'
      have hkx : k' < xs.length := by rw [HL.out]; exact hk'
      have HH : Hid (lo ≤ xs.getD k' 0 ∧ xs.getD k' 0 < hi → latestZ xs lo hi = xs.getD k' 0) := fun hx => latest_hit hkx hx HA.out
      have HM : Hid (¬ (lo ≤ xs.getD k' 0 ∧ xs.getD k' 0 < hi) → ∀ x ∈ xs.drop k', ¬ (lo ≤ x ∧ x < hi)) := by
        intro hx x hxm
        rw [List.drop_eq_getElem_cons hkx] at hxm
        rcases List.mem_cons.1 hxm with hxm | hxm
        · subst hxm
          have ek : xs.getD k' 0 = xs[k'] := by simp [List.getD, hkx]
          rw [ek] at hx
          exact hx
        · exact HA.out x hxm
      generalize xs.getD k' 0 = x at *
      clear e1
      by_cases a1 : lo ≤ x
      · by_cases a2 : x < hi
        · go_wp2
          go_ret
          exact ⟨ret_int (HH.out ⟨a1, a2⟩).symm, rfl⟩
        · go_wp2
          go_round
          case rel => exact ⟨k', by omega, rfl, HM.out (by omega)⟩
          case measure => simp [intOf]
      · go_wp2
        go_round
        case rel => exact ⟨k', by omega, rfl, HM.out (by omega)⟩
        case measure => simp [intOf]
    · obtain rfl : k = 0 := by omega
      go_wp2
      go_ret
      exact ⟨ret_int (latest_none (by simpa using HA.out)).symm, rfl⟩

theorem vic_no {n : Int} {xs : List Int} (h : victimOk n xs = false) : victimE n xs = 6 ∧ victimN n xs = 0 := by simp [victimE, victimN, h]
theorem vic_yes {n : Int} {xs : List Int} (h : victimOk n xs = true) : victimE n xs = 0 ∧ victimN n xs = victimZ n xs := by simp [victimE, victimN, h]

theorem latest_in (l : List Int) (lo hi : Int) : latestZ l lo hi = -1 ∨ (lo ≤ latestZ l lo hi ∧ latestZ l lo hi < hi) := by
  unfold latestZ
  cases h : l.reverse.find? (fun x => decide (lo ≤ x) && decide (x < hi)) with
  | none => left; rfl
  | some x =>
    have := List.find?_some h
    simp at this
    right
    simpa using this

theorem vic_two {xs : List Int} {x : Int} (hx : latestZ xs 0 2 = x) : (x < 0 → victimZ 2 xs = 0) ∧ (0 ≤ x → x < 1 → victimZ 2 xs = 1) ∧ (1 ≤ x → victimZ 2 xs = 0) := by
  have e : victimZ 2 xs = if (decide (0 ≤ x) && decide (x < 1)) = true then 1 else 0 := by
    subst hx; rfl
  rw [e]
  refine ⟨fun h => ?_, fun h g => ?_, fun h => ?_⟩
  · rw [decide_eq_false (show ¬ 0 ≤ x by omega)]; rfl
  · rw [decide_eq_true h, decide_eq_true g]; rfl
  · rw [decide_eq_false (show ¬ x < 1 by omega)]; simp

theorem vic_four {xs : List Int} {x y z : Int} (hx : latestZ xs 0 4 = x) (hy : latestZ xs 0 2 = y) (hz : latestZ xs 2 4 = z) :
    (0 ≤ x → x < 2 → z < 2 → victimZ 4 xs = 2) ∧ (0 ≤ x → x < 2 → 2 ≤ z → z < 3 → victimZ 4 xs = 3) ∧ (0 ≤ x → x < 2 → 3 ≤ z → victimZ 4 xs = 2) ∧
    (x < 0 ∨ 2 ≤ x → y < 0 → victimZ 4 xs = 0) ∧ (x < 0 ∨ 2 ≤ x → 0 ≤ y → y < 1 → victimZ 4 xs = 1) ∧ (x < 0 ∨ 2 ≤ x → 1 ≤ y → victimZ 4 xs = 0) := by
  have e : victimZ 4 xs = if (decide (0 ≤ x) && decide (x < 2)) = true then (if (decide (0 ≤ z) && decide (z < 3)) = true then 3 else 2) else (if (decide (0 ≤ y) && decide (y < 1)) = true then 1 else 0) := by
    subst hx hy hz; rfl
  have zz := latest_in xs 2 4
  rw [hz] at zz
  rw [e]
  simp only [Bool.and_eq_true, decide_eq_true_eq]
  refine ⟨fun h g k => ?_, fun h g k l => ?_, fun h g k => ?_, fun h g => ?_, fun h g k => ?_, fun h g => ?_⟩
  · rw [if_pos ⟨h, g⟩, if_neg (by omega)]
  · rw [if_pos ⟨h, g⟩, if_pos (by omega)]
  · rw [if_pos ⟨h, g⟩, if_neg (by omega)]
  · rw [if_neg (by omega), if_neg (by omega)]
  · rw [if_neg (by omega), if_pos (by omega)]
  · rw [if_neg (by omega), if_neg (by omega)]

set_option maxRecDepth 100000 in
set_option maxHeartbeats 3200000 in
theorem cvictim_one (sa : Option Addr) (len cap : Nat) (xs : List Int) (w : World) (h : Ints w sa len cap xs) :
    Calls Tryz.prog 64 #[.int .i64 1, .slice sa len cap] w fun e w' => e = .returned (.tuple #[.int .i64 (victimN 1 xs), .int .i64 (victimE 1 xs)]) ∧ w' = w := by
  have hle := h.hle
  have hm := h.hmax
  unfold maxLen at hm
  have HL : Hid (xs.length = len) := h.hlen
  go_enter Tryz.func64, Tryz.ntmps64
  go_wp2
  go_loop [6] (fun i => ∃ k : Nat, k ≤ len ∧ i = .int .i64 k ∧ (xs.take k).all (fun x => withinB x 0 (1 - 1)) = true) (fun i => len - (intOf i).toNat)
  case atStart => exact ⟨0, Nat.zero_le _, rfl, rfl⟩
  case round =>
    obtain ⟨k, hk, rfl, hall⟩ := hrel
    have HA : Hid _ := hall
    clear hall
    by_cases hlt : k < len
    · obtain ⟨b, off, rfl, hc⟩ := h.hat k hlt
      have HS2 : Hid _ := all_snoc (fun x => withinB x 0 (1 - 1)) xs 0 k (by rw [h.hlen]; exact hlt)
      have HF : Hid _ := all_false_of (fun x => withinB x 0 (1 - 1)) xs 0 k (by rw [h.hlen]; exact hlt)
      generalize xs.getD k 0 = x at *
      by_cases h1 : x < 0
      · have HN : Hid _ := vic_no (n := 1) (xs := xs) (by unfold victimOk; rw [HF.out ((within_not _ _ _).2 (by omega))]; simp)
        go_wp2
        go_ret2
        exact ⟨ret_vic HN.out.2.symm HN.out.1.symm, rfl⟩
      · by_cases h2 : 1 ≤ x
        · have HN : Hid _ := vic_no (n := 1) (xs := xs) (by unfold victimOk; rw [HF.out ((within_not _ _ _).2 (by omega))]; simp)
          go_wp2
          go_ret2
          exact ⟨ret_vic HN.out.2.symm HN.out.1.symm, rfl⟩
        · go_wp2
          go_round
          case rel => exact ⟨k + 1, by omega, by go_num, by rw [HS2.out, HA.out]; exact (within_iff _ _ _).2 (by omega)⟩
          case measure => simp [intOf]; omega
    · have HN : Hid _ := vic_yes (n := 1) (xs := xs) (by
        have := HA.out
        rw [List.take_of_length_le (by rw [h.hlen]; omega)] at this
        unfold victimOk; rw [this]; rfl)
      go_wp2
      refine wp_loop_rounds 1 ?_
      rw [rounds_succ]
      go_wp2
      go_ret2
      exact ⟨ret_vic HN.out.2.symm HN.out.1.symm, rfl⟩

set_option maxRecDepth 100000 in
set_option maxHeartbeats 3200000 in
theorem cvictim_two (sa : Option Addr) (len cap : Nat) (xs : List Int) (w : World) (h : Ints w sa len cap xs) :
    Calls Tryz.prog 64 #[.int .i64 2, .slice sa len cap] w fun e w' => e = .returned (.tuple #[.int .i64 (victimN 2 xs), .int .i64 (victimE 2 xs)]) ∧ w' = w := by
  have hle := h.hle
  have hm := h.hmax
  unfold maxLen at hm
  have HL : Hid (xs.length = len) := h.hlen
  go_enter Tryz.func64, Tryz.ntmps64
  go_wp2
  go_loop [6] (fun i => ∃ k : Nat, k ≤ len ∧ i = .int .i64 k ∧ (xs.take k).all (fun x => withinB x 0 (2 - 1)) = true) (fun i => len - (intOf i).toNat)
  case atStart => exact ⟨0, Nat.zero_le _, rfl, rfl⟩
  case round =>
    obtain ⟨k, hk, rfl, hall⟩ := hrel
    have HA : Hid _ := hall
    clear hall
    by_cases hlt : k < len
    · obtain ⟨b, off, rfl, hc⟩ := h.hat k hlt
      have HS2 : Hid _ := all_snoc (fun x => withinB x 0 (2 - 1)) xs 0 k (by rw [h.hlen]; exact hlt)
      have HF : Hid _ := all_false_of (fun x => withinB x 0 (2 - 1)) xs 0 k (by rw [h.hlen]; exact hlt)
      generalize xs.getD k 0 = x at *
      by_cases h1 : x < 0
      · have HN : Hid _ := vic_no (n := 2) (xs := xs) (by unfold victimOk; rw [HF.out ((within_not _ _ _).2 (by omega))]; simp)
        go_wp2
        go_ret2
        exact ⟨ret_vic HN.out.2.symm HN.out.1.symm, rfl⟩
      · by_cases h2 : 2 ≤ x
        · have HN : Hid _ := vic_no (n := 2) (xs := xs) (by unfold victimOk; rw [HF.out ((within_not _ _ _).2 (by omega))]; simp)
          go_wp2
          go_ret2
          exact ⟨ret_vic HN.out.2.symm HN.out.1.symm, rfl⟩
        · go_wp2
          go_round
          case rel => exact ⟨k + 1, by omega, by go_num, by rw [HS2.out, HA.out]; exact (within_iff _ _ _).2 (by omega)⟩
          case measure => simp [intOf]; omega
    · have HN : Hid _ := vic_yes (n := 2) (xs := xs) (by
        have := HA.out
        rw [List.take_of_length_le (by rw [h.hlen]; omega)] at this
        unfold victimOk; rw [this]; rfl)
      have HQ : Hid _ := last_any sa len cap xs 0 2 w h
      have HX : Hid _ := vic_two (xs := xs) rfl
      generalize latestZ xs 0 2 = x at *
      have cases : x < 0 ∨ (0 ≤ x ∧ x < 1) ∨ (0 ≤ x ∧ 1 ≤ x) := by omega
      rcases cases with c1 | ⟨c1, c2⟩ | ⟨c1, c2⟩
      all_goals
        go_wp2
        refine wp_loop_rounds 2 ?_
        rw [rounds_succ]
        go_wp2_with (go_at_call 103; refine Calls.mono HQ.out ?_; rintro e w' ⟨rfl, rfl⟩)
        rw [rounds_succ]
        go_wp2
        go_ret2
        refine ⟨ret_vic (Eq.trans ?_ HN.out.2.symm) HN.out.1.symm, rfl⟩
        first | exact (HX.out.1 c1).symm | exact (HX.out.2.1 c1 c2).symm | exact (HX.out.2.2 c2).symm

set_option maxRecDepth 100000 in
set_option maxHeartbeats 3200000 in
theorem cvictim_four (sa : Option Addr) (len cap : Nat) (xs : List Int) (w : World) (h : Ints w sa len cap xs) :
    Calls Tryz.prog 64 #[.int .i64 4, .slice sa len cap] w fun e w' => e = .returned (.tuple #[.int .i64 (victimN 4 xs), .int .i64 (victimE 4 xs)]) ∧ w' = w := by
  have hle := h.hle
  have hm := h.hmax
  unfold maxLen at hm
  have HL : Hid (xs.length = len) := h.hlen
  go_enter Tryz.func64, Tryz.ntmps64
  go_wp2
  go_loop [6] (fun i => ∃ k : Nat, k ≤ len ∧ i = .int .i64 k ∧ (xs.take k).all (fun x => withinB x 0 (4 - 1)) = true) (fun i => len - (intOf i).toNat)
  case atStart => exact ⟨0, Nat.zero_le _, rfl, rfl⟩
  case round =>
    obtain ⟨k, hk, rfl, hall⟩ := hrel
    have HA : Hid _ := hall
    clear hall
    by_cases hlt : k < len
    · obtain ⟨b, off, rfl, hc⟩ := h.hat k hlt
      have HS2 : Hid _ := all_snoc (fun x => withinB x 0 (4 - 1)) xs 0 k (by rw [h.hlen]; exact hlt)
      have HF : Hid _ := all_false_of (fun x => withinB x 0 (4 - 1)) xs 0 k (by rw [h.hlen]; exact hlt)
      generalize xs.getD k 0 = x at *
      by_cases h1 : x < 0
      · have HN : Hid _ := vic_no (n := 4) (xs := xs) (by unfold victimOk; rw [HF.out ((within_not _ _ _).2 (by omega))]; simp)
        go_wp2
        go_ret2
        exact ⟨ret_vic HN.out.2.symm HN.out.1.symm, rfl⟩
      · by_cases h2 : 4 ≤ x
        · have HN : Hid _ := vic_no (n := 4) (xs := xs) (by unfold victimOk; rw [HF.out ((within_not _ _ _).2 (by omega))]; simp)
          go_wp2
          go_ret2
          exact ⟨ret_vic HN.out.2.symm HN.out.1.symm, rfl⟩
        · go_wp2
          go_round
          case rel => exact ⟨k + 1, by omega, by go_num, by rw [HS2.out, HA.out]; exact (within_iff _ _ _).2 (by omega)⟩
          case measure => simp [intOf]; omega
    · have HN : Hid _ := vic_yes (n := 4) (xs := xs) (by
        have := HA.out
        rw [List.take_of_length_le (by rw [h.hlen]; omega)] at this
        unfold victimOk; rw [this]; rfl)
      have HQ : Hid _ := last_any sa len cap xs 0 4 w h
      have HR : Hid _ := last_any sa len cap xs 0 2 w h
      have HT : Hid _ := last_any sa len cap xs 2 4 w h
      have HX : Hid _ := vic_four (xs := xs) rfl rfl rfl
      have ib := latest_in xs 2 4
      generalize latestZ xs 0 4 = x at *
      generalize latestZ xs 0 2 = y at *
      generalize latestZ xs 2 4 = z at *
      have cases : (0 ≤ x ∧ x < 2) ∨ x < 0 ∨ (0 ≤ x ∧ 2 ≤ x) := by omega
      rcases cases with ⟨c1, c2⟩ | c1 | ⟨c1, c2⟩
      · have cases : z < 2 ∨ (2 ≤ z ∧ z < 3) ∨ (2 ≤ z ∧ 3 ≤ z) := by omega
        clear ib
        rcases cases with c3 | ⟨c3, c4⟩ | ⟨c3, c4⟩
        all_goals
          go_wp2
          refine wp_loop_rounds 3 ?_
          rw [rounds_succ]
          go_wp2_with (go_at_call 103; refine Calls.mono HQ.out ?_; rintro e w' ⟨rfl, rfl⟩)
          rw [rounds_succ]
          go_wp2_with (go_at_call 103; refine Calls.mono HT.out ?_; rintro e w' ⟨rfl, rfl⟩)
          rw [rounds_succ]
          go_wp2
          go_ret2
          refine ⟨ret_vic (Eq.trans ?_ HN.out.2.symm) HN.out.1.symm, rfl⟩
          first | exact (HX.out.1 c1 c2 c3).symm | exact (HX.out.2.1 c1 c2 c3 c4).symm | exact (HX.out.2.2.1 c1 c2 c4).symm
      all_goals
        have cases : y < 0 ∨ (0 ≤ y ∧ y < 1) ∨ (0 ≤ y ∧ 1 ≤ y) := by omega
        clear ib
        rcases cases with c3 | ⟨c3, c4⟩ | ⟨c3, c4⟩
        all_goals
          go_wp2
          refine wp_loop_rounds 3 ?_
          rw [rounds_succ]
          go_wp2_with (go_at_call 103; refine Calls.mono HQ.out ?_; rintro e w' ⟨rfl, rfl⟩)
          rw [rounds_succ]
          go_wp2_with (go_at_call 103; refine Calls.mono HR.out ?_; rintro e w' ⟨rfl, rfl⟩)
          rw [rounds_succ]
          go_wp2
          go_ret2
          refine ⟨ret_vic (Eq.trans ?_ HN.out.2.symm) HN.out.1.symm, rfl⟩
          first | exact (HX.out.2.2.2.1 (by omega) c3).symm | exact (HX.out.2.2.2.2.1 (by omega) c3 c4).symm | exact (HX.out.2.2.2.2.2 (by omega) c4).symm

set_option maxRecDepth 100000 in
theorem cvictim_any (n : Int) (sa : Option Addr) (len cap : Nat) (xs : List Int) (w : World) (h : Ints w sa len cap xs) :
    Calls Tryz.prog 64 #[.int .i64 n, .slice sa len cap] w fun e w' => e = .returned (.tuple #[.int .i64 (victimN n xs), .int .i64 (victimE n xs)]) ∧ w' = w := by
  rcases Bool.eq_false_or_eq_true (smallB n) with hs | hs
  · rcases (small_iff n).1 hs with rfl | rfl | rfl
    · exact cvictim_one sa len cap xs w h
    · exact cvictim_two sa len cap xs w h
    · exact cvictim_four sa len cap xs w h
  · have HN : Hid _ := vic_no (n := n) (xs := xs) (by unfold victimOk; rw [hs]; rfl)
    obtain ⟨n1, n2, n3⟩ := (small_not n).1 hs
    have b1 : (n != 1) = true := by simpa using n1
    have b2 : (n != 2) = true := by simpa using n2
    have b3 : (n != 4) = true := by simpa using n3
    clear n1 n2 n3
    go_enter Tryz.func64, Tryz.ntmps64
    go_wp2
    go_ret2
    exact ⟨ret_vic HN.out.2.symm HN.out.1.symm, rfl⟩

theorem victim_any : VictimC := by
  intro n sa len cap xs w h
  go_enter Tryz.func26, Tryz.ntmps26
  go_wp2_with fail
  refine (cvictim_any n sa len cap xs _ h).mono ?_
  rintro e w' ⟨rfl, rfl⟩
  go_wp2
  go_ret2
  exact ⟨rfl, Below.refl _ _⟩
end Go.Proofs.YtehheaedbnfidaaGreat
