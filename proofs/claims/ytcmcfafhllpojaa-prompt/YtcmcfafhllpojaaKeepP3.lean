/-
  The walk of wallskeep's Prompt.
-/
import Derived.Test.YtcmcfafhllpojaaKeepP2
namespace Go.Proofs.Ytcmcfafhllpojaa
open Go.RowKit

set_option maxRecDepth 100000 in
set_option maxHeartbeats 1600000 in
theorem prompt_bad (hW : WaitC) (c : Cf) (s : Sl) (t : Int) (w : World) (h : CfgAt w c s) (hz : chk c ≠ 0) :
    Calls Try.prog 3 #[cfgV c s, .int .i64 t] w fun e w' => e = .returned (.bool true) ∧ Below w.heap.size w w' := by
  have k0 := Kept.start w (cfgA c s) 25
  have wy := wait_bad (c := c) (d := 0) (t := t) hz
  have hb : (chk c == 0) = false := by simpa using hz
  have hb2 : (chk c != 0) = true := by simpa using hz
  have hw := hW c s 0 t
  rw [wy.1, wy.2] at hw
  clear wy hz
  go_enter Try.func3, Try.ntmps3
  go_wp2_with fail
  refine (kright_any c s _ (h.below k0.below (Nat.le_refl _))).mono ?_; rintro e w1 ⟨rfl, hb1⟩; have k1 := k0.next hb1 rfl; have q1 := k1.box
  rw [hb]
  go_wp2_with fail
  refine (hw _ (h.below k1.below (Nat.le_refl _))).mono ?_; rintro e w2 ⟨rfl, hb2⟩; have k2 := k1.next hb2 rfl
  clear q1
  go_wp2
  go_ret
  exact ⟨rfl, k2.below⟩

set_option maxRecDepth 100000 in
set_option maxHeartbeats 1600000 in
theorem prompt_out (hW : WaitC) (c : Cf) (s : Sl) (t : Int) (w : World) (h : CfgAt w c s) (hz : chk c = 0) (ht : ¬ (0 ≤ t ∧ t ≤ 10000)) :
    Calls Try.prog 3 #[cfgV c s, .int .i64 t] w fun e w' => e = .returned (.bool true) ∧ Below w.heap.size w w' := by
  have k0 := Kept.start w (cfgA c s) 25
  have wy := wait_no (c := c) (d := 0) (t := t) hz (decide_eq_false (by omega))
  have hb : (chk c == 0) = true := by simpa using hz
  have hw := hW c s 0 t
  rw [wy.1, wy.2] at hw
  clear wy hz
  have cases : t < 0 ∨ (0 ≤ t ∧ 10000 < t) := by omega
  clear ht
  rcases cases with a1 | ⟨a1, a2⟩
  all_goals
    go_enter Try.func3, Try.ntmps3
    go_wp2_with fail
    refine (kright_any c s _ (h.below k0.below (Nat.le_refl _))).mono ?_
    rintro e w1 ⟨rfl, hb1⟩
    have k1 := k0.next hb1 rfl
    have q1 := k1.box
    rw [hb]
    go_wp2_with fail
    refine (hw _ (h.below k1.below (Nat.le_refl _))).mono ?_
    rintro e w2 ⟨rfl, hb2⟩
    have k2 := k1.next hb2 rfl
    clear q1
    go_wp2
    go_ret
    exact ⟨rfl, k2.below⟩

set_option maxRecDepth 100000 in
set_option maxHeartbeats 3200000 in
theorem prompt_in (hW : WaitC) (c : Cf) (s : Sl) (t : Nat) (w : World) (h : CfgAt w c s) (hz : chk c = 0) (ht : (t : Int) ≤ 10000) :
    Calls Try.prog 3 #[cfgV c s, .int .i64 t] w fun e w' => e = .returned (.bool true) ∧ Below w.heap.size w w' := by
  have k0 := Kept.start w (cfgA c s) 25
  have R := right_of hz
  have hb : (chk c == 0) = true := by simpa using hz
  have HZ : Hid _ := hz
  have d2 := R.d2
  have d1 := R.d1
  have s1 := R.s1
  have s2 := R.s2
  have hlen := h.slots.hlen
  have l1 := R.t1
  have l2 := R.t2
  rw [hlen] at l1 l2
  have p1 : 0 ≤ (s.sl : Int) * c.slot ∧ (s.sl : Int) * c.slot ≤ 8 * 4 := ⟨Int.mul_nonneg (by omega) (by omega), Int.mul_le_mul (by omega) (by omega) (by omega) (by omega)⟩
  have hm2 : (c.slots.length : Int) * c.slot = (s.sl : Int) * c.slot := by rw [hlen]
  have HL : Hid _ := hlen
  obtain ⟨wa, wl, wc, sa, sl, sc, ta, tl, tc⟩ := s
  have HM2 : Hid _ := hm2
  simp only at p1 l1 l2
  clear hz hlen hm2
  generalize hm : (sl : Int) * c.slot = m at *
  go_enter Try.func3, Try.ntmps3
  go_wp2_with fail
  refine (kright_any c _ _ (h.below k0.below (Nat.le_refl _))).mono ?_; rintro e w1 ⟨rfl, hb1⟩; have k1 := k0.next hb1 rfl; have q1 := k1.box
  rw [hb]
  go_wp2
  go_loopw [8] (fun u wr => ∃ k : Nat, (k : Int) ≤ c.domains ∧ u = .int .i64 k ∧ Kept w wr w.heap.size (cfgA c ⟨wa, wl, wc, sa, sl, sc, ta, tl, tc⟩)) (fun u _ => (c.domains - intOf u).toNat)
  case atStart => exact ⟨0, by omega, rfl, k1⟩
  case round =>
    obtain ⟨d, hd, rfl, hq⟩ := hrel
    have q1 := hq.box
    by_cases hlt : (d : Int) < c.domains
    · by_cases hout : (10000 : Int) < t + m
      · go_wp2_with fail
        refine (kwaits_any hW c _ d t _ (h.below hq.below (Nat.le_refl _)) HZ.out (by omega) hlt (by omega)).mono ?_; rintro e w2 ⟨rfl, hb2⟩; have k2 := hq.next hb2 rfl
        clear q1
        have q2 := k2.box
        go_wp2
        go_roundw
        case rel => exact ⟨d + 1, by omega, by go_num, k2⟩
        case measure => simp [intOf]; omega
      · go_wp2_with fail
        refine (kwaits_any hW c _ d t _ (h.below hq.below (Nat.le_refl _)) HZ.out (by omega) hlt (by omega)).mono ?_; rintro e w2 ⟨rfl, hb2⟩; have k2 := hq.next hb2 rfl
        clear q1
        have q2 := k2.box
        go_wp2_with fail
        refine (kmany_any hW c _ d t _ (h.below k2.below (Nat.le_refl _)) HZ.out (by omega) hlt (by rw [HM2.out]; omega)).mono ?_; rintro e w3 ⟨rfl, hb3⟩; have k3 := k2.next hb3 rfl
        clear q2
        have q3 := k3.box
        have hints := (h.below k3.below (Nat.le_refl _)).slots
        simp only at hints
        have hile := hints.hle
        have him := hints.hmax
        unfold maxLen at him
        have HC8 := List.count_le_length (a := (d : Int)) (l := c.slots)
        rw [HL.out] at HC8
        go_wp2
        go_loop [11, 12] (fun o i => ∃ k : Nat, k ≤ sl ∧ i = .int .i64 k ∧ o = .int .i64 ((c.slots.take k).count (d : Int) : Nat)) (fun _ i => sl - (intOf i).toNat)
        case atStart => exact ⟨0, Nat.zero_le _, rfl, rfl⟩
        case round =>
          obtain ⟨k, hk, rfl, rfl⟩ := hrel
          have hcl := count_le (d : Int) c.slots k
          by_cases hlk : k < sl
          · obtain ⟨b, off, hsa, hc⟩ := hints.hat k hlk
            subst hsa
            have HS : Hid _ := count_snoc (d : Int) c.slots k (by rw [HL.out]; exact hlk)
            go_wp2
            all_goals
              go_round
              case rel =>
                refine ⟨k + 1, by omega, by go_num, ?_⟩
                rw [HS.out]
                simp [*]
              case measure => simp [intOf]; omega
          · have ek : (c.slots.take k).count (d : Int) = c.slots.count (d : Int) := by rw [List.take_of_length_le (by rw [HL.out]; omega)]
            have en : (((c.slots.count (d : Int) : Nat) : Int) != ((c.slots.count (d : Int) : Nat) : Int)) = false := by simp
            rw [ek]
            clear ek hcl
            go_wp2
            go_roundw
            case rel => exact ⟨d + 1, by omega, by go_num, k3⟩
            case measure => simp [intOf]; omega
    · go_wp2
      go_ret
      exact ⟨rfl, hq.below⟩

theorem prompt_any (hW : WaitC) (c : Cf) (s : Sl) (t : Int) (w : World) (h : CfgAt w c s) :
    Calls Try.prog 3 #[cfgV c s, .int .i64 t] w fun e w' => e = .returned (.bool true) ∧ Below w.heap.size w w' := by
  by_cases hz : chk c = 0
  · by_cases ht : 0 ≤ t ∧ t ≤ 10000
    · obtain ⟨n, rfl⟩ := Int.eq_ofNat_of_zero_le ht.1
      exact prompt_in hW c s n w h hz ht.2
    · exact prompt_out hW c s t w h hz ht
  · exact prompt_bad hW c s t w h hz
end Go.Proofs.Ytcmcfafhllpojaa
