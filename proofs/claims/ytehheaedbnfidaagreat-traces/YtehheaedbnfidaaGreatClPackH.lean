/-
  Conf, Conf2, Conf3
-/
import Derived.Test.YtehheaedbnfidaaGreatProg
import Derived.Test.YtehheaedbnfidaaGreatClPackA
import Derived.Deep.QuietTactic
import Derived.BigQuiet
import Derived.Deep.Light
import Derived.Deep.RegionWith
namespace Go.Proofs.YtehheaedbnfidaaGreat
open Go.RowKit

set_option maxHeartbeats 400000 in
theorem within_any (n lo hi : Int) (w : World) :
    Calls Tryz.prog 117 #[.int .i64 n, .int .i64 lo, .int .i64 hi] w fun e w' => e = .returned (.bool (withinB n lo hi)) ∧ w' = w := by
  by_cases h : lo ≤ n
  · go_enter Tryz.func117, Tryz.ntmps117
    go_wp2
    go_ret
    exact ⟨ret_bool (by simp [withinB, h]), rfl⟩
  · go_enter Tryz.func117, Tryz.ntmps117
    go_wp2
    go_ret
    exact ⟨ret_bool (by simp [withinB]; omega), rfl⟩

set_option maxHeartbeats 400000 in
theorem small_any (n : Int) (w : World) :
    Calls Tryz.prog 140 #[.int .i64 n] w fun e w' => e = .returned (.bool (smallB n)) ∧ w' = w := by
  by_cases h : (n == 1) = true
  · go_enter Tryz.func140, Tryz.ntmps140
    go_wp2
    go_ret
    exact ⟨ret_bool (by simp [smallB, h]), rfl⟩
  · have h' : (n == 1) = false := by simpa using h
    clear h
    by_cases h2 : (n == 2) = true
    · go_enter Tryz.func140, Tryz.ntmps140
      go_wp2
      go_ret
      exact ⟨ret_bool (by simp [smallB, h', h2]), rfl⟩
    · have h2' : (n == 2) = false := by simpa using h2
      clear h2
      go_enter Tryz.func140, Tryz.ntmps140
      go_wp2
      go_ret
      exact ⟨ret_bool (by simp [smallB, h', h2']), rfl⟩

set_option maxHeartbeats 400000 in
theorem count_any (sa : Option Addr) (len cap : Nat) (xs : List Int) (x : Int) (w : World) (h : Ints w sa len cap xs) :
    Calls Tryz.prog 118 #[.slice sa len cap, .int .i64 x] w fun e w' => e = .returned (.int .i64 (xs.count x)) ∧ w' = w := by
  have hle := h.hle
  have hm := h.hmax
  unfold maxLen at hm
  go_enter Tryz.func118, Tryz.ntmps118
  go_wp2
  go_loop [5, 6] (fun n i => ∃ k : Nat, k ≤ len ∧ i = .int .i64 k ∧ n = .int .i64 ((xs.take k).count x : Nat)) (fun _ i => len - (intOf i).toNat)
  case atStart => exact ⟨0, Nat.zero_le _, rfl, rfl⟩
  case round =>
    obtain ⟨k, hk, rfl, rfl⟩ := hrel
    have hcl := count_le x xs k
    by_cases hlt : k < len
    · obtain ⟨b, off, rfl, hc⟩ := h.hat k hlt
      have HS : Hid _ := count_snoc x xs k (by rw [h.hlen]; exact hlt)
      go_wp2
      all_goals
        go_round
        case rel => 
          refine ⟨k + 1, by omega, by go_num, ?_⟩
          rw [HS.out]
          simp [*]
        case measure => simp [intOf]; omega
    · go_wp2
      go_ret
      exact ⟨ret_int (by rw [List.take_of_length_le (by rw [h.hlen]; omega)]), rfl⟩

set_option maxHeartbeats 400000 in
theorem list_any (sa : Option Addr) (len cap : Nat) (xs : List Int) (most lo hi : Int) (w : World) (h : Ints w sa len cap xs) :
    Calls Tryz.prog 142 #[.slice sa len cap, .int .i64 most, .int .i64 lo, .int .i64 hi] w fun e w' => e = .returned (.bool (listB xs most lo hi)) ∧ w' = w := by
  have hle := h.hle
  have hm := h.hmax
  unfold maxLen at hm
  have hl := h.hlen
  by_cases hin : withinB len 1 most = true
  · have hin' := (within_iff _ _ _).1 hin
    have HL : Hid (xs.length = len) := hl
    clear hl
    go_enter Tryz.func142, Tryz.ntmps142
    go_wp2_with (go_at_call 117; refine (within_any _ _ _ _).mono ?_; rintro e w' ⟨rfl, rfl⟩)
    go_loop [9] (fun i => ∃ k : Nat, k ≤ len ∧ i = .int .i64 k ∧ (xs.take k).all (fun x => withinB x lo hi) = true) (fun i => len - (intOf i).toNat)
    case atStart => exact ⟨0, Nat.zero_le _, rfl, rfl⟩
    case round =>
      obtain ⟨k, hk, rfl, hall⟩ := hrel
      have HA : Hid _ := hall
      clear hall
      by_cases hlt : k < len
      · obtain ⟨b, off, rfl, hc⟩ := h.hat k hlt
        have HS : Hid _ := all_snoc (fun x => withinB x lo hi) xs 0 k (by rw [h.hlen]; exact hlt)
        by_cases hx : withinB (xs[k]?.getD 0) lo hi = true
        · go_wp2_with (go_at_call 117; refine (within_any _ _ _ _).mono ?_; rintro e w' ⟨rfl, rfl⟩)
          go_round
          case rel => exact ⟨k + 1, by omega, by go_num, by rw [HS.out, HA.out]; simpa using hx⟩
          case measure => simp [intOf]; omega
        · have hx' : withinB (xs[k]?.getD 0) lo hi = false := by simpa using hx
          clear hx
          go_wp2_with (go_at_call 117; refine (within_any _ _ _ _).mono ?_; rintro e w' ⟨rfl, rfl⟩)
          go_ret
          exact ⟨ret_bool (by simp [listB, all_false_of (fun x => withinB x lo hi) xs 0 k (by rw [h.hlen]; exact hlt) (by simpa using hx')]), rfl⟩
      · go_wp2
        go_ret
        refine ⟨ret_bool ?_, rfl⟩
        have := HA.out
        rw [List.take_of_length_le (by rw [h.hlen]; omega)] at this
        have e := HL.out
        simp only [listB, this, e]
        simp
        omega
  · have hin' : withinB len 1 most = false := by simpa using hin
    clear hin
    go_enter Tryz.func142, Tryz.ntmps142
    go_wp2_with (go_at_call 117; refine (within_any _ _ _ _).mono ?_; rintro e w' ⟨rfl, rfl⟩)
    go_ret
    refine ⟨ret_bool ?_, rfl⟩
    have := (within_not _ _ _).1 hin'
    have : ¬ (1 ≤ (xs.length : Int) ∧ (xs.length : Int) ≤ most) := by rw [h.hlen]; omega
    simp only [listB]
    have e : (decide (1 ≤ (xs.length : Int)) && decide ((xs.length : Int) ≤ most)) = false := by
      rw [← Bool.decide_and]; simpa using this
    rw [e]; rfl


set_option maxHeartbeats 400000 in
theorem words_any (c : Cf) (s : Sl) (w : World) :
    Calls Tryz.prog 141 #[cfgV c s] w fun e w' => e = .returned (.bool (wordsB c)) ∧ Below w.heap.size w w' := by
  rcases Bool.eq_false_or_eq_true (smallB c.line) with hl | hl
  · have hl' := (small_iff _).1 hl
    rcases Bool.eq_false_or_eq_true (withinB c.priv c.line 64) with hp | hp
    · have hp' := (within_iff _ _ _).1 hp
      rcases Bool.eq_false_or_eq_true (withinB c.shared 0 32) with hs | hs
      · have hs' := (within_iff _ _ _).1 hs
        have h0 : ¬ c.line = 0 := by omega
        have h00 : 0 < c.line := by omega
        have h01 : 0 ≤ c.priv := by omega
        clear hl' 
        rcases Bool.eq_false_or_eq_true (c.priv % c.line == 0) with hq | hq
        · go_enter Tryz.func141, Tryz.ntmps141
          go_wp2_with (first | (go_at_call 117; refine (within_any _ _ _ _).mono ?_; rintro e w' ⟨rfl, rfl⟩) | (go_at_call 140; refine (small_any _ _).mono ?_; rintro e w' ⟨rfl, rfl⟩))
          go_ret
          exact ⟨ret_bool (by simp [wordsB, hl, hp, hs, hq]), (Below.refl _ _).alloc (Nat.le_refl _) _⟩
        · go_enter Tryz.func141, Tryz.ntmps141
          go_wp2_with (first | (go_at_call 117; refine (within_any _ _ _ _).mono ?_; rintro e w' ⟨rfl, rfl⟩) | (go_at_call 140; refine (small_any _ _).mono ?_; rintro e w' ⟨rfl, rfl⟩))
          go_ret
          exact ⟨ret_bool (by simp [wordsB, hl, hp, hs, hq]), (Below.refl _ _).alloc (Nat.le_refl _) _⟩
      · go_enter Tryz.func141, Tryz.ntmps141
        go_wp2_with (first | (go_at_call 117; refine (within_any _ _ _ _).mono ?_; rintro e w' ⟨rfl, rfl⟩) | (go_at_call 140; refine (small_any _ _).mono ?_; rintro e w' ⟨rfl, rfl⟩))
        go_ret
        exact ⟨ret_bool (by simp [wordsB, hl, hp, hs]), (Below.refl _ _).alloc (Nat.le_refl _) _⟩
    · go_enter Tryz.func141, Tryz.ntmps141
      go_wp2_with (first | (go_at_call 117; refine (within_any _ _ _ _).mono ?_; rintro e w' ⟨rfl, rfl⟩) | (go_at_call 140; refine (small_any _ _).mono ?_; rintro e w' ⟨rfl, rfl⟩))
      go_ret
      exact ⟨ret_bool (by simp [wordsB, hl, hp]), (Below.refl _ _).alloc (Nat.le_refl _) _⟩
  · go_enter Tryz.func141, Tryz.ntmps141
    go_wp2_with (first | (go_at_call 117; refine (within_any _ _ _ _).mono ?_; rintro e w' ⟨rfl, rfl⟩) | (go_at_call 140; refine (small_any _ _).mono ?_; rintro e w' ⟨rfl, rfl⟩))
    go_ret
    exact ⟨ret_bool (by simp [wordsB, hl]), (Below.refl _ _).alloc (Nat.le_refl _) _⟩


set_option maxHeartbeats 400000 in
theorem shape_any (c : Cf) (s : Sl) (w : World) :
    Calls Tryz.prog 112 #[cfgV c s] w fun e w' => e = .returned (.bool (shapeB c)) ∧ Below w.heap.size w w' := by
  go_enter Tryz.func112, Tryz.ntmps112
  go_wp2_with (first | (go_at_call 117; refine (within_any _ _ _ _).mono ?_; rintro e w' ⟨rfl, rfl⟩) | (go_at_call 140; refine (small_any _ _).mono ?_; rintro e w' ⟨rfl, rfl⟩) | (go_at_call 141; refine (words_any _ s _).mono ?_; rintro e w' ⟨rfl, hb⟩))
  all_goals go_ret
  all_goals refine ⟨ret_bool ?_, ?_⟩
  all_goals first
    | exact (Below.refl _ _).alloc (Nat.le_refl _) _
    | exact ((Below.refl _ _).alloc (Nat.le_refl _) _).trans (hb.mono (by simp))
    | (go_light; simp_all [shapeB])

set_option maxHeartbeats 400000 in
theorem ways_any (c : Cf) (s : Sl) (w : World) (h : CfgAt w c s) (hd1 : 1 ≤ c.domains) (hd2 : c.domains ≤ 4) :
    Calls Tryz.prog 113 #[cfgV c s] w fun e w' => e = .returned (.bool (waysB c)) ∧ Below w.heap.size w w' := by
  have hl := (h.ways.alloc (.cells (cfgA c s) 43))
  rcases Bool.eq_false_or_eq_true (listB c.ways 8 0 (c.domains - 1)) with ht | ht
  · go_enter Tryz.func113, Tryz.ntmps113
    go_wp2_with (go_at_call 142; refine (list_any _ _ _ c.ways _ _ _ _ hl).mono ?_; rintro e w' ⟨rfl, rfl⟩)
    go_loop [3] (fun i => ∃ k : Nat, (k : Int) ≤ c.domains ∧ i = .int .i64 k ∧ allUpto (fun d => smallB (c.ways.count d)) k = true) (fun i => c.domains.toNat - (intOf i).toNat)
    case atStart => exact ⟨0, by omega, rfl, rfl⟩
    case round =>
      obtain ⟨k, hk, rfl, hall⟩ := hrel
      have HA : Hid _ := hall
      clear hall
      by_cases hlt : (k : Int) < c.domains
      · rcases Bool.eq_false_or_eq_true (smallB (c.ways.count (k : Int))) with hx | hx
        · go_wp2_with (first | (go_at_call 118; refine (count_any _ _ _ c.ways _ _ hl).mono ?_; rintro e w' ⟨rfl, rfl⟩) | (go_at_call 140; refine (small_any _ _).mono ?_; rintro e w' ⟨rfl, rfl⟩))
          go_round
          case rel => exact ⟨k + 1, by omega, by go_num, by simp [allUpto, HA.out, hx]⟩
          case measure => simp [intOf]; omega
        · go_wp2_with (first | (go_at_call 118; refine (count_any _ _ _ c.ways _ _ hl).mono ?_; rintro e w' ⟨rfl, rfl⟩) | (go_at_call 140; refine (small_any _ _).mono ?_; rintro e w' ⟨rfl, rfl⟩))
          go_ret
          exact ⟨ret_bool (by simp [waysB, allUpto_false (fun d => smallB (c.ways.count d)) k hx c.domains.toNat (by omega)]), (Below.refl _ _).alloc (Nat.le_refl _) _⟩
      · go_wp2
        go_ret
        have e : k = c.domains.toNat := by omega
        have := HA.out
        rw [e] at this
        exact ⟨ret_bool (by simp [waysB, ht, this]), (Below.refl _ _).alloc (Nat.le_refl _) _⟩
  · go_enter Tryz.func113, Tryz.ntmps113
    go_wp2_with (go_at_call 142; refine (list_any _ _ _ c.ways _ _ _ _ hl).mono ?_; rintro e w' ⟨rfl, rfl⟩)
    go_ret
    exact ⟨ret_bool (by simp [waysB, ht]), (Below.refl _ _).alloc (Nat.le_refl _) _⟩
end Go.Proofs.YtehheaedbnfidaaGreat

namespace Go.Proofs.YtehheaedbnfidaaGreat
open Go.RowKit

set_option maxHeartbeats 400000 in
theorem slots_any (c : Cf) (s : Sl) (w : World) (h : CfgAt w c s) (hd1 : 1 ≤ c.domains) (hd2 : c.domains ≤ 4) :
    Calls Tryz.prog 114 #[cfgV c s] w fun e w' => e = .returned (.bool (slotsB c)) ∧ Below w.heap.size w w' := by
  have hl := (h.slots.alloc (.cells (cfgA c s) 43))
  rcases Bool.eq_false_or_eq_true (withinB c.slot 1 4) with hs | hs
  · rcases Bool.eq_false_or_eq_true (listB c.slots 8 0 (c.domains - 1)) with ht | ht
    · go_enter Tryz.func114, Tryz.ntmps114
      go_wp2_with (first | (go_at_call 117; refine (within_any _ _ _ _).mono ?_; rintro e w' ⟨rfl, rfl⟩) | (go_at_call 142; refine (list_any _ _ _ c.slots _ _ _ _ hl).mono ?_; rintro e w' ⟨rfl, rfl⟩))
      go_loop [3] (fun i => ∃ k : Nat, (k : Int) ≤ c.domains ∧ i = .int .i64 k ∧ allUpto (fun d => !((c.slots.count d : Int) == 0)) k = true) (fun i => c.domains.toNat - (intOf i).toNat)
      case atStart => exact ⟨0, by omega, rfl, rfl⟩
      case round =>
        obtain ⟨k, hk, rfl, hall⟩ := hrel
        have HA : Hid _ := hall
        clear hall
        by_cases hlt : (k : Int) < c.domains
        · rcases Bool.eq_false_or_eq_true ((c.slots.count (k : Int) : Int) == 0) with hx | hx
          · go_wp2_with (go_at_call 118; refine (count_any _ _ _ c.slots _ _ hl).mono ?_; rintro e w' ⟨rfl, rfl⟩)
            go_ret
            exact ⟨ret_bool (by simp [slotsB, allUpto_false (fun d => !((c.slots.count d : Int) == 0)) k (by simpa using hx) c.domains.toNat (by omega)]), (Below.refl _ _).alloc (Nat.le_refl _) _⟩
          · go_wp2_with (go_at_call 118; refine (count_any _ _ _ c.slots _ _ hl).mono ?_; rintro e w' ⟨rfl, rfl⟩)
            go_round
            case rel => exact ⟨k + 1, by omega, by go_num, by simp only [allUpto, HA.out, hx]; rfl⟩
            case measure => simp [intOf]; omega
        · go_wp2
          go_ret
          have e : k = c.domains.toNat := by omega
          have := HA.out
          rw [e] at this
          exact ⟨ret_bool (by simp only [slotsB, hs, ht, this]; rfl), (Below.refl _ _).alloc (Nat.le_refl _) _⟩
    · go_enter Tryz.func114, Tryz.ntmps114
      go_wp2_with (first | (go_at_call 117; refine (within_any _ _ _ _).mono ?_; rintro e w' ⟨rfl, rfl⟩) | (go_at_call 142; refine (list_any _ _ _ c.slots _ _ _ _ hl).mono ?_; rintro e w' ⟨rfl, rfl⟩))
      go_ret
      exact ⟨ret_bool (by simp [slotsB, ht]), (Below.refl _ _).alloc (Nat.le_refl _) _⟩
  · go_enter Tryz.func114, Tryz.ntmps114
    go_wp2_with (go_at_call 117; refine (within_any _ _ _ _).mono ?_; rintro e w' ⟨rfl, rfl⟩)
    go_ret
    exact ⟨ret_bool (by simp [slotsB, hs]), (Below.refl _ _).alloc (Nat.le_refl _) _⟩

set_option maxHeartbeats 400000 in
theorem worst_any (c : Cf) (s : Sl) (w : World) (h : CfgAt w c s) (h1 : 1 ≤ c.cores) (h2 : c.cores ≤ 3) (h3 : 1 ≤ c.slot) (h4 : c.slot ≤ 4) (h5 : c.slots.length ≤ 8) :
    Calls Tryz.prog 76 #[cfgV c s] w fun e w' => e = .returned (.int .i64 (worstZ c)) ∧ Below w.heap.size w w' := by
  have hl := h.slots.hlen
  have b1 : (3 * c.cores) * (s.sl : Int) ≤ 72 ∧ 0 ≤ (3 * c.cores) * (s.sl : Int) := by
    constructor
    · have : (3 * c.cores) * (s.sl : Int) ≤ 9 * 8 := Int.mul_le_mul (by omega) (by omega) (by omega) (by omega)
      omega
    · exact Int.mul_nonneg (by omega) (by omega)
  obtain ⟨b2, b3⟩ := b1
  have b4 : (3 * c.cores) * (s.sl : Int) * c.slot ≤ 288 := by
    have : (3 * c.cores) * (s.sl : Int) * c.slot ≤ 72 * 4 := Int.mul_le_mul (by omega) (by omega) (by omega) (by omega)
    omega
  have b5 : 0 ≤ (3 * c.cores) * (s.sl : Int) * c.slot := Int.mul_nonneg (by omega) (by omega)
  have HE : Hid (worstZ c = 3 * c.cores * s.sl * c.slot) := by unfold worstZ Hid; rw [hl]
  clear hl
  go_enter Tryz.func76, Tryz.ntmps76
  go_wp2
  go_ret
  exact ⟨ret_int (by rw [HE.out]), (Below.refl _ _).alloc (Nat.le_refl _) _⟩
end Go.Proofs.YtehheaedbnfidaaGreat

namespace Go.Proofs.YtehheaedbnfidaaGreat
open Go.RowKit

theorem wrap_sub1 {d : Int} (h1 : 1 ≤ d) (h2 : d ≤ 4) : IntKind.i64.wrap (d - 1) = d - 1 := by
  have : d = 1 ∨ d = 2 ∨ d = 3 ∨ d = 4 := by omega
  rcases this with rfl | rfl | rfl | rfl <;> rfl

set_option maxHeartbeats 400000 in
theorem turns_any (c : Cf) (s : Sl) (w : World) (h : CfgAt w c s) (hd1 : 1 ≤ c.domains) (hd2 : c.domains ≤ 4) :
    Calls Tryz.prog 115 #[cfgV c s] w fun e w' => e = .returned (.bool (turnsB c)) ∧ Below w.heap.size w w' := by
  obtain ⟨wa, wl, wc, sa, sl, sc, ta, tl, tc⟩ := s
  have hg : Grid (w.alloc (.cells (cfgA c ⟨wa, wl, wc, sa, sl, sc, ta, tl, tc⟩) 43)) ta tl tc c.turns := h.turns.alloc (.cells (cfgA c ⟨wa, wl, wc, sa, sl, sc, ta, tl, tc⟩) 43)
  have hlen := hg.hlen
  have hle := hg.hle
  have hm := hg.hmax
  unfold maxLen at hm
  have HL : Hid (c.turns.length = tl) := hlen
  clear hlen
  rcases Bool.eq_false_or_eq_true ((tl : Int) != c.cores) with hn | hn
  · go_enter Tryz.func115, Tryz.ntmps115
    go_wp2
    go_ret
    exact ⟨ret_bool (by simp only [turnsB, HL.out]; simp at hn; simp [hn]), (Below.refl _ _).alloc (Nat.le_refl _) _⟩
  · go_enter Tryz.func115, Tryz.ntmps115
    go_wp2
    go_loopw [3] (fun i w' => ∃ k n : Nat, k ≤ tl ∧ i = .int .i64 k ∧ (c.turns.take k).all (fun l => listB l 4 (-1) (c.domains - 1)) = true ∧ w' = (w.alloc (.cells (cfgA c ⟨wa, wl, wc, sa, sl, sc, ta, tl, tc⟩) 43)).drewN n) (fun i _ => tl - (intOf i).toNat)
    case atStart => exact ⟨0, 0, by omega, rfl, rfl, rfl⟩
    case round =>
      obtain ⟨k, n, hk, rfl, hall, hwr⟩ := hrel
      have HA : Hid _ := hall
      clear hall
      have HW : Hid _ := hwr
      have c10 : wr.cell? ⟨w.heap.size, 10, none⟩ = some (.slice ta tl tc) := by rw [hwr]; simp
      have c1 : wr.cell? ⟨w.heap.size, 1, none⟩ = some (.int .i64 c.domains) := by rw [hwr]; simp
      have hgr : Grid wr ta tl tc c.turns := by rw [hwr]; exact hg.drewN n
      clear hwr
      by_cases hlt : k < tl
      · obtain ⟨b, off, ia, il, ic, rfl, hc, hi⟩ := hgr.hat k hlt
        have HS : Hid _ := all_snoc (fun l => listB l 4 (-1) (c.domains - 1)) c.turns [] k (by rw [HL.out]; exact hlt)
        have hrow := all_false_of (fun l => listB l 4 (-1) (c.domains - 1)) c.turns [] k (by rw [HL.out]; exact hlt)
        have HR : Hid _ := hrow
        clear hrow
        generalize c.turns.getD k [] = row at *
        rcases Bool.eq_false_or_eq_true (listB row 4 (-1) (c.domains - 1)) with hx | hx
        · have HX : Hid _ := hx
          clear hx
          go_wp2
          go_quiet ((go_at_call 142; rw [wrap_sub1 hd1 hd2]; exact Calls.quiet_of_same (list_any _ _ _ row _ _ _ _ (hi.drewN _))))
          rw [HX.out]
          go_wp2
          go_roundw
          case rel => exact ⟨k + 1, n + nq, by omega, by go_num, by rw [HS.out, HA.out, HX.out]; rfl, by rw [HW.out, World.drewN_drewN]⟩
          case measure => simp [intOf]; omega
        · have HX : Hid _ := hx
          clear hx
          go_wp2
          go_quiet ((go_at_call 142; rw [wrap_sub1 hd1 hd2]; exact Calls.quiet_of_same (list_any _ _ _ row _ _ _ _ (hi.drewN _))))
          rw [HX.out]
          go_wp2
          go_ret
          refine ⟨ret_bool ?_, ?_⟩
          · simp [turnsB, HR.out HX.out]
          · rw [HW.out]; exact below_drewN (below_drewN ((Below.refl _ _).alloc (Nat.le_refl _) _) _) _
      · go_wp2
        go_ret
        refine ⟨ret_bool ?_, by rw [HW.out]; exact below_drewN ((Below.refl _ _).alloc (Nat.le_refl _) _) _⟩
        have e := HL.out
        have := HA.out
        rw [List.take_of_length_le (by rw [e]; omega)] at this
        simp at hn
        simp only [turnsB, this, e, hn]
        simp
end Go.Proofs.YtehheaedbnfidaaGreat
