/-
  Ref, Ref2
-/
import Derived.Test.YtehheaedbnfidaaGreatProg
import Derived.Test.YtehheaedbnfidaaGreatClPackA
import Derived.Deep.QuietTactic
import Derived.BigQuiet
import Derived.Deep.Light
namespace Go.Proofs.YtehheaedbnfidaaGreat
open Go.RowKit

set_option maxHeartbeats 400000 in
theorem rsmall_any (n : Int) (w : World) :
    Calls Tryz.prog 65 #[.int .i64 n] w fun e w' => e = .returned (.bool (smallB n)) ∧ w' = w := by
  by_cases h : (n == 1) = true
  · go_enter Tryz.func65, Tryz.ntmps65
    go_wp2
    go_ret
    exact ⟨ret_bool (by simp [smallB, h]), rfl⟩
  · have h' : (n == 1) = false := by simpa using h
    clear h
    by_cases h2 : (n == 2) = true
    · go_enter Tryz.func65, Tryz.ntmps65
      go_wp2
      go_ret
      exact ⟨ret_bool (by simp [smallB, h', h2]), rfl⟩
    · have h2' : (n == 2) = false := by simpa using h2
      clear h2
      go_enter Tryz.func65, Tryz.ntmps65
      go_wp2
      go_ret
      exact ⟨ret_bool (by simp [smallB, h', h2']), rfl⟩

set_option maxHeartbeats 400000 in
theorem rcount_any (sa : Option Addr) (len cap : Nat) (xs : List Int) (x : Int) (w : World) (h : Ints w sa len cap xs) :
    Calls Tryz.prog 78 #[.slice sa len cap, .int .i64 x] w fun e w' => e = .returned (.int .i64 (xs.count x)) ∧ w' = w := by
  have hle := h.hle
  have hm := h.hmax
  unfold maxLen at hm
  go_enter Tryz.func78, Tryz.ntmps78
  go_wp2
  go_loop [5, 6] (fun n i => ∃ k : Nat, k ≤ len ∧ i = .int .i64 k ∧ n = .int .i64 ((xs.take k).count x : Nat)) (fun _ i => len - (intOf i).toNat)
  case atStart => exact ⟨0, Nat.zero_le _, rfl, rfl⟩
  case round =>
    obtain ⟨k, hk, rfl, rfl⟩ := hrel
    have hcl := count_le x xs k
    by_cases hlt : k < len
    · obtain ⟨b, off, rfl, hc⟩ := h.hat k hlt
      have HS : Hid _ := count_snoc x xs k (by rw [h.hlen]; exact hlt)
      go_wp2
      all_goals
        go_round
        case rel => 
          refine ⟨k + 1, by omega, by go_num, ?_⟩
          rw [HS.out]
          simp [*]
        case measure => simp [intOf]; omega
    · go_wp2
      go_ret
      exact ⟨ret_int (by rw [List.take_of_length_le (by rw [h.hlen]; omega)]), rfl⟩


theorem list_not {xs : List Int} {most lo hi : Int} (h : ¬ (1 ≤ (xs.length : Int) ∧ (xs.length : Int) ≤ most)) : listB xs most lo hi = false := by
  simp only [listB]
  have e : (decide (1 ≤ (xs.length : Int)) && decide ((xs.length : Int) ≤ most)) = false := by
    rw [← Bool.decide_and]; simpa using h
  rw [e]; rfl

set_option maxHeartbeats 400000 in
theorem rwithin_any (sa : Option Addr) (len cap : Nat) (xs : List Int) (most lo hi : Int) (w : World) (h : Ints w sa len cap xs) :
    Calls Tryz.prog 110 #[.slice sa len cap, .int .i64 most, .int .i64 lo, .int .i64 hi] w fun e w' => e = .returned (.bool (listB xs most lo (hi - 1))) ∧ w' = w := by
  have hle := h.hle
  have hm := h.hmax
  unfold maxLen at hm
  have HL : Hid (xs.length = len) := h.hlen
  go_enter Tryz.func110, Tryz.ntmps110
  go_wp2
  go_loop [9] (fun i => ∃ k : Nat, k ≤ len ∧ i = .int .i64 k ∧ (xs.take k).all (fun x => withinB x lo (hi - 1)) = true) (fun i => len - (intOf i).toNat)
  case atStart => exact ⟨0, Nat.zero_le _, rfl, rfl⟩
  case round =>
    obtain ⟨k, hk, rfl, hall⟩ := hrel
    have HA : Hid _ := hall
    clear hall
    by_cases hlt : k < len
    · obtain ⟨b, off, rfl, hc⟩ := h.hat k hlt
      have HS : Hid _ := all_snoc (fun x => withinB x lo (hi - 1)) xs 0 k (by rw [h.hlen]; exact hlt)
      have HF : Hid _ := all_false_of (fun x => withinB x lo (hi - 1)) xs 0 k (by rw [h.hlen]; exact hlt)
      generalize xs.getD k 0 = x at *
      by_cases h1 : x < lo
      · go_wp2
        go_ret
        exact ⟨ret_bool (by simp [listB, HF.out ((within_not _ _ _).2 (by omega))]), rfl⟩
      · by_cases h2 : hi ≤ x
        · go_wp2
          go_ret
          exact ⟨ret_bool (by simp [listB, HF.out ((within_not _ _ _).2 (by omega))]), rfl⟩
        · go_wp2
          go_round
          case rel => exact ⟨k + 1, by omega, by go_num, by rw [HS.out, HA.out]; exact (within_iff _ _ _).2 (by omega)⟩
          case measure => simp [intOf]; omega
    · have hall : xs.all (fun x => withinB x lo (hi - 1)) = true := by
        have := HA.out
        rwa [List.take_of_length_le (by rw [h.hlen]; omega)] at this
      have HB : Hid _ := hall
      clear hall
      by_cases h1 : 1 ≤ (len : Int)
      · go_wp2
        go_ret
        refine ⟨ret_bool ?_, rfl⟩
        have e := HL.out
        simp only [listB, HB.out, e]
        simp
        omega
      · go_wp2
        go_ret
        refine ⟨ret_bool ?_, rfl⟩
        rw [list_not]
        rw [HL.out]; omega
end Go.Proofs.YtehheaedbnfidaaGreat

namespace Go.Proofs.YtehheaedbnfidaaGreat
open Go.RowKit

set_option maxHeartbeats 800000 in
theorem rshape_any (c : Cf) (s : Sl) (w : World) :
    Calls Tryz.prog 68 #[cfgV c s] w fun e w' => e = .returned (.bool (shapeB c)) ∧ Below w.heap.size w w' := by
  have b0 : Below w.heap.size w (w.alloc (.cells (cfgA c s) 43)) := (Below.refl _ _).alloc (Nat.le_refl _) _
  by_cases h1 : c.cores < 1
  · go_enter Tryz.func68, Tryz.ntmps68
    go_wp2
    go_ret
    exact ⟨ret_bool (by simp [shapeB, (within_not c.cores 1 3).2 (by omega)]), b0⟩
  by_cases h2 : 3 < c.cores
  · go_enter Tryz.func68, Tryz.ntmps68
    go_wp2
    go_ret
    exact ⟨ret_bool (by simp [shapeB, (within_not c.cores 1 3).2 (by omega)]), b0⟩
  by_cases h3 : c.domains < 1
  · go_enter Tryz.func68, Tryz.ntmps68
    go_wp2
    go_ret
    exact ⟨ret_bool (by simp [shapeB, (within_not c.domains 1 4).2 (by omega)]), b0⟩
  by_cases h4 : 4 < c.domains
  · go_enter Tryz.func68, Tryz.ntmps68
    go_wp2
    go_ret
    exact ⟨ret_bool (by simp [shapeB, (within_not c.domains 1 4).2 (by omega)]), b0⟩
  have HC : Hid (withinB c.cores 1 3 = true) := (within_iff _ _ _).2 (by omega)
  have HD : Hid (withinB c.domains 1 4 = true) := (within_iff _ _ _).2 (by omega)
  rcases Bool.eq_false_or_eq_true (smallB c.line) with h5 | h5
  · rcases Bool.eq_false_or_eq_true (smallB c.near) with h6 | h6
    · rcases Bool.eq_false_or_eq_true (smallB c.sets) with h7 | h7
      · have hl' := (small_iff _).1 h5
        have g0 : ¬ c.line = 0 := by omega
        have g1 : 0 < c.line := by omega
        clear hl'
        by_cases h8 : c.priv < c.line
        · go_enter Tryz.func68, Tryz.ntmps68
          go_wp2_with (go_at_call 65; refine (rsmall_any _ _).mono ?_; rintro e w' ⟨rfl, rfl⟩)
          go_ret
          exact ⟨ret_bool (by simp [shapeB, wordsB, (within_not c.priv c.line 64).2 (by omega)]), b0⟩
        by_cases h9 : 64 < c.priv
        · go_enter Tryz.func68, Tryz.ntmps68
          go_wp2_with (go_at_call 65; refine (rsmall_any _ _).mono ?_; rintro e w' ⟨rfl, rfl⟩)
          go_ret
          exact ⟨ret_bool (by simp [shapeB, wordsB, (within_not c.priv c.line 64).2 (by omega)]), b0⟩
        have g2 : 0 ≤ c.priv := by omega
        have HP : Hid (withinB c.priv c.line 64 = true) := (within_iff _ _ _).2 (by omega)
        rcases Bool.eq_false_or_eq_true (c.priv % c.line != 0) with h10 | h10
        · go_enter Tryz.func68, Tryz.ntmps68
          go_wp2_with (go_at_call 65; refine (rsmall_any _ _).mono ?_; rintro e w' ⟨rfl, rfl⟩)
          go_ret
          have h10' : (c.priv % c.line == 0) = false := by simpa using h10
          exact ⟨ret_bool (by simp only [shapeB, wordsB, h10']; simp), b0⟩
        have h10' : (c.priv % c.line == 0) = true := by simpa using h10
        have HQ : Hid _ := h10'
        clear h10'
        by_cases h11 : 0 ≤ c.shared
        · by_cases h12 : c.shared ≤ 32
          · have HH : Hid (withinB c.shared 0 32 = true) := (within_iff _ _ _).2 (by omega)
            go_enter Tryz.func68, Tryz.ntmps68
            go_wp2_with (go_at_call 65; refine (rsmall_any _ _).mono ?_; rintro e w' ⟨rfl, rfl⟩)
            go_ret
            exact ⟨ret_bool (by simp only [shapeB, wordsB, HC.out, HD.out, h5, h6, h7, HP.out, HQ.out, HH.out]; simp), b0⟩
          · go_enter Tryz.func68, Tryz.ntmps68
            go_wp2_with (go_at_call 65; refine (rsmall_any _ _).mono ?_; rintro e w' ⟨rfl, rfl⟩)
            go_ret
            exact ⟨ret_bool (by simp [shapeB, wordsB, (within_not c.shared 0 32).2 (by omega)]), b0⟩
        · go_enter Tryz.func68, Tryz.ntmps68
          go_wp2_with (go_at_call 65; refine (rsmall_any _ _).mono ?_; rintro e w' ⟨rfl, rfl⟩)
          go_ret
          exact ⟨ret_bool (by simp [shapeB, wordsB, (within_not c.shared 0 32).2 (by omega)]), b0⟩
      · go_enter Tryz.func68, Tryz.ntmps68
        go_wp2_with (go_at_call 65; refine (rsmall_any _ _).mono ?_; rintro e w' ⟨rfl, rfl⟩)
        go_ret
        exact ⟨ret_bool (by simp [shapeB, h7]), b0⟩
    · go_enter Tryz.func68, Tryz.ntmps68
      go_wp2_with (go_at_call 65; refine (rsmall_any _ _).mono ?_; rintro e w' ⟨rfl, rfl⟩)
      go_ret
      exact ⟨ret_bool (by simp [shapeB, h6]), b0⟩
  · go_enter Tryz.func68, Tryz.ntmps68
    go_wp2_with (go_at_call 65; refine (rsmall_any _ _).mono ?_; rintro e w' ⟨rfl, rfl⟩)
    go_ret
    exact ⟨ret_bool (by simp [shapeB, wordsB, h5]), b0⟩
end Go.Proofs.YtehheaedbnfidaaGreat
