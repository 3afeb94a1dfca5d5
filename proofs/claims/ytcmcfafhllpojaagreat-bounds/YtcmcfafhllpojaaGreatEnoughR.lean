/-
  The walk of wallsref.Enough, and of the call walls.Enough.
-/
import Derived.Test.YtcmcfafhllpojaaGreatEnough
import Derived.Deep.QuietTactic
import Derived.BigQuiet
namespace Go.Proofs.YtcmcfafhllpojaaGreat
open Go.RowKit

set_option maxHeartbeats 800000 in
theorem Enough_any (c : Cf) (s : Sl) (core d k : Int) (w : World) (h : CfgAt w c s) :
    Calls Tryz.prog 88 #[cfgV c s, .int .i64 core, .int .i64 d, .int .i64 k] w fun e w' => e = .returned (.tuple #[.int .i64 (enoughN c core d k), .int .i64 (enoughE c core d k)]) ∧ Below w.heap.size w w' := by
  have k0 := Kept.start w (cfgA c s) 29
  go_enter Tryz.func88, Tryz.ntmps88
  go_wp2_with fail
  refine (enough_any c s core d k _ (h.below k0.below (Nat.le_refl _))).mono ?_; rintro e w1 ⟨rfl, hb1⟩
  go_wp2
  go_ret2
  exact ⟨rfl, (k0.next hb1 rfl).below⟩

theorem next_place {S a : Int} {j : Nat} (ha : a = (j : Int) * S) : a + S = ((j + 1 : Nat) : Int) * S := by
  rw [ha, show ((j + 1 : Nat) : Int) = (j : Int) + 1 by omega, Int.add_mul]; omega

theorem renough_bd {k g lq : Int} {r : Nat} (hg : 1 ≤ g) (hk : 0 ≤ k) (hk2 : k ≤ 64) (h1 : 0 ≤ lq) (h2 : lq ≤ 8000) (hr : r = 0 ∨ ((r - 1 : Nat) : Int) * g < k) :
    0 ≤ (r : Int) * g ∧ (r : Int) * g ≤ k + g ∧ 0 ≤ (r : Int) * lq ∧ (r : Int) * lq ≤ 65 * 8000 := by
  have a0 : 0 ≤ (r : Int) * g := Int.mul_nonneg (by omega) (by omega)
  have b0 : 0 ≤ (r : Int) * lq := Int.mul_nonneg (by omega) h1
  rcases hr with hr | hr
  · subst hr; simp; omega
  · by_cases e : r = 0
    · subst e; simp; omega
    · have e1 : ((r - 1 : Nat) : Int) = (r : Int) - 1 := by omega
      rw [e1] at hr
      have e2 : ((r : Int) - 1) * g = (r : Int) * g - g := by rw [Int.sub_mul]; omega
      have e3 : ((r : Int) - 1) * 1 ≤ ((r : Int) - 1) * g := Int.mul_le_mul_of_nonneg_left hg (by omega)
      have e4 : (r : Int) * lq ≤ 65 * 8000 := Int.mul_le_mul (by omega) h2 h1 (by omega)
      omega

set_option maxRecDepth 100000 in
set_option maxHeartbeats 1600000 in
theorem renough_no (c : Cf) (s : Sl) (core d k : Int) (w : World) (h : CfgAt w c s) (hz : chk c = 0) (hn : ¬ (0 ≤ core ∧ core < c.cores ∧ 0 ≤ d ∧ d < c.domains ∧ 0 ≤ k ∧ k ≤ 64)) :
    Calls Tryz.prog 89 #[cfgV c s, .int .i64 core, .int .i64 d, .int .i64 k] w fun e w' => e = .returned (.tuple #[.int .i64 (enoughN c core d k), .int .i64 (enoughE c core d k)]) ∧ Below w.heap.size w w' := by
  have k0 := Kept.start w (cfgA c s) 29
  have hb : (chk c != 0) = false := by simp [hz]
  have HN : Hid _ := enough_no hz (ok_not hn)
  clear hz
  have cases : core < 0 ∨ (0 ≤ core ∧ c.cores ≤ core) ∨ (0 ≤ core ∧ core < c.cores ∧ d < 0) ∨ (0 ≤ core ∧ core < c.cores ∧ 0 ≤ d ∧ c.domains ≤ d) ∨ (0 ≤ core ∧ core < c.cores ∧ 0 ≤ d ∧ d < c.domains ∧ k < 0) ∨ (0 ≤ core ∧ core < c.cores ∧ 0 ≤ d ∧ d < c.domains ∧ 0 ≤ k ∧ 64 < k) := by omega
  clear hn
  rcases cases with a1 | ⟨a1, a2⟩ | ⟨a1, a2, a3⟩ | ⟨a1, a2, a3, a4⟩ | ⟨a1, a2, a3, a4, a5⟩ | ⟨a1, a2, a3, a4, a5, a6⟩
  all_goals
    go_enter Tryz.func89, Tryz.ntmps89
    go_wp2_with fail
    refine (rcheck_any c s _ (h.below k0.below (Nat.le_refl _))).mono ?_
    rintro e w1 ⟨rfl, hb1⟩
    have k1 := k0.next hb1 rfl
    have q1 := k1.box
    go_wp2
    go_ret2
    exact ⟨ret_two HN.out.2.symm HN.out.1.symm, k1.below⟩

set_option maxHeartbeats 800000 in
theorem renough_bad (c : Cf) (s : Sl) (core d k : Int) (w : World) (h : CfgAt w c s) (hz : chk c ≠ 0) :
    Calls Tryz.prog 89 #[cfgV c s, .int .i64 core, .int .i64 d, .int .i64 k] w fun e w' => e = .returned (.tuple #[.int .i64 (enoughN c core d k), .int .i64 (enoughE c core d k)]) ∧ Below w.heap.size w w' := by
  have k0 := Kept.start w (cfgA c s) 29
  have hb : (chk c != 0) = true := by simpa using hz
  have HN : Hid _ := enough_bad (core := core) (d := d) (k := k) hz
  clear hz
  go_enter Tryz.func89, Tryz.ntmps89
  go_wp2_with fail
  refine (rcheck_any c s _ (h.below k0.below (Nat.le_refl _))).mono ?_; rintro e w1 ⟨rfl, hb1⟩; have k1 := k0.next hb1 rfl; have q1 := k1.box
  go_wp2
  go_ret2
  exact ⟨ret_two HN.out.2.symm HN.out.1.symm, k1.below⟩

set_option maxRecDepth 100000 in
set_option maxHeartbeats 3200000 in
theorem renough_yes (c : Cf) (wa : Option Addr) (wl wc : Nat) (sa : Option Addr) (sl sc : Nat) (b off tl tc : Nat) (i : Nat) (d k : Int) (w : World) (h : CfgAt w c ⟨wa, wl, wc, sa, sl, sc, some ⟨b, off, none⟩, tl, tc⟩) (hz : chk c = 0)
    (ia : Option Addr) (il ic : Nat) (row : List Int) (hrow : c.turns.getD i [] = row) (hi : i < tl) (hc : w.cell? ⟨b, off + i, none⟩ = some (.slice ia il ic)) (hints : Ints w ia il ic row)
    (hok : 0 ≤ (i : Int) ∧ (i : Int) < c.cores ∧ 0 ≤ d ∧ d < c.domains ∧ 0 ≤ k ∧ k ≤ 64) :
    Calls Tryz.prog 89 #[cfgV c ⟨wa, wl, wc, sa, sl, sc, some ⟨b, off, none⟩, tl, tc⟩, .int .i64 i, .int .i64 d, .int .i64 k] w fun e w' => e = .returned (.tuple #[.int .i64 (enoughN c i d k), .int .i64 (enoughE c i d k)]) ∧ Below w.heap.size w w' := by
  have k0 := Kept.start w (cfgA c ⟨wa, wl, wc, sa, sl, sc, some ⟨b, off, none⟩, tl, tc⟩) 29
  have R := right_of hz
  have hb : (chk c != 0) = false := by simp [hz]
  have htle := h.turns.hle
  have htm := h.turns.hmax
  unfold maxLen at htm
  have hrl := grid_row R (show i < c.turns.length by have := h.turns.hlen; simp only [] at this; omega)
  rw [hrow] at hrl
  have hlen := hints.hlen
  have HBD : b < w.heap.size := cell_lt hc
  have hil : il ≤ 4 := by omega
  have hil1 : 1 ≤ il := by omega
  have HL : Hid _ := hlen
  obtain ⟨a1, a2, a3, a4, a5, a6⟩ := hok
  have HOK : Hid (0 ≤ (i : Int) ∧ (i : Int) < c.cores ∧ 0 ≤ d ∧ d < c.domains ∧ 0 ≤ k ∧ k ≤ 64) := ⟨a1, a2, a3, a4, a5, a6⟩
  have HZ : Hid _ := hz
  clear hz hlen hrl
  rcases Bool.eq_false_or_eq_true ((row.count d : Int) == 0) with a7 | a7
  · have HN : Hid _ := enough_no HZ.out (ok_none (c := c) (core := (i : Int)) (d := d) (k := k) (by rw [Int.toNat_natCast, hrow]; exact a7))
    clear hrow
    go_enter Tryz.func89, Tryz.ntmps89
    go_wp2_with fail
    refine (rcheck_any c _ _ (h.below k0.below (Nat.le_refl _))).mono ?_; rintro e w1 ⟨rfl, hb1⟩; have k1 := k0.next hb1 rfl; have q1 := k1.box
    have hc1 : w1.cell? ⟨b, off + i, none⟩ = some (.slice ia il ic) := by rw [k1.below.cell (p := ⟨b, off + i, none⟩) HBD]; exact hc
    have hints1 := hints.below k1.below (Nat.le_refl _)
    go_wp2_with (go_at_call 137; refine (rcount_any _ _ _ row _ _ hints1).mono ?_; rintro e w' ⟨rfl, rfl⟩)
    go_ret2
    exact ⟨ret_two HN.out.2.symm HN.out.1.symm, k1.below⟩
  · have HN : Hid _ := enough_yes HZ.out (ok_yes (c := c) (core := (i : Int)) (d := d) (k := k) HOK.out (by rw [Int.toNat_natCast, hrow]; exact a7))
    rw [Int.toNat_natCast, hrow, HL.out] at HN
    clear hrow
    obtain ⟨_, _, _, _, _, _, _, _, w0, w1, f1, f2, q1, q2, _, _⟩ := R
    have R := right_of HZ.out
    go_enter Tryz.func89, Tryz.ntmps89
    go_wp2_with fail
    refine (rcheck_any c _ _ (h.below k0.below (Nat.le_refl _))).mono ?_; rintro e w1 ⟨rfl, hb1⟩; have k1 := k0.next hb1 rfl; have q1 := k1.box
    have hc1 : w1.cell? ⟨b, off + i, none⟩ = some (.slice ia il ic) := by rw [k1.below.cell (p := ⟨b, off + i, none⟩) HBD]; exact hc
    have hints1 := hints.below k1.below (Nat.le_refl _)
    go_wp2_with (go_at_call 137; refine (rcount_any _ _ _ row _ _ hints1).mono ?_; rintro e w' ⟨rfl, rfl⟩)
    have cf := h.below k1.below (Nat.le_refl _)
    refine (rworst_any c _ _ cf R.c1 R.c2 R.s1 R.s2 R.t2).mono ?_; rintro e w2 ⟨rfl, hb2⟩; have k2 := k1.next hb2 rfl; have q2 := k2.box
    have hc2 : w2.cell? ⟨b, off + i, none⟩ = some (.slice ia il ic) := by rw [k2.below.cell (p := ⟨b, off + i, none⟩) HBD]; exact hc
    clear q1 hb1 hb2 hc1 hints1
    go_wp2
    go_loop [13, 14] (fun g at_ => ∃ (j : Nat) (a : Int), g = .int .i64 j ∧ at_ = .int .i64 a ∧ a = (j : Int) * (worstZ c + 1) ∧ (j = 0 ∨ ((j - 1 : Nat) : Int) * (worstZ c + 1) < c.quantum - c.flush - worstZ c)) (fun _ at_ => (c.quantum - c.flush - worstZ c - intOf at_).toNat)
    case atStart => exact ⟨0, 0, rfl, rfl, by simp, Or.inl rfl⟩
    case round =>
      obtain ⟨j, a, rfl, rfl, ha, hj⟩ := hrel
      have bd := step_bd (D := c.quantum - c.flush - worstZ c) (S := worstZ c + 1) (j := j) (by omega) (by omega) hj
      rw [← ha] at bd
      have HA : Hid _ := ha
      have HJ : Hid _ := hj
      obtain ⟨bd1, bd2, bd3⟩ := bd
      clear ha hj
      by_cases hlt : a < c.quantum - c.flush - worstZ c
      · go_wp2
        go_round
        case rel =>
          refine ⟨j + 1, a + worstZ c + 1, by go_num, rfl, ?_, Or.inr ?_⟩
          · rw [← next_place HA.out]; omega
          · simp only [Nat.add_sub_cancel]; rw [← HA.out]; exact hlt
        case measure => simp [intOf]; omega
      · have hge : (j : Int) = gZ c := perTurn_eq (by omega) (by rw [← HA.out]; omega) HJ.out (by omega)
        have gb := perTurn_bd (D := c.quantum - c.flush - worstZ c) (S := worstZ c + 1) (by omega) (by omega)
        have HG : Hid _ := hge
        have j1 : 1 ≤ (j : Int) := by rw [hge]; exact gb.1
        have j2 : (j : Int) ≤ 2000 := by omega
        clear hge gb
        go_wp2
        have p1 : 0 ≤ (il : Int) * c.quantum ∧ (il : Int) * c.quantum ≤ 4 * 2000 := ⟨Int.mul_nonneg (by omega) (by omega), Int.mul_le_mul (by omega) (by omega) (by omega) (by omega)⟩
        obtain ⟨lq, elq⟩ : ∃ lq, (il : Int) * c.quantum = lq := ⟨_, rfl⟩
        rw [elq] at p1
        obtain ⟨p11, p12⟩ := p1
        have ELQ : Hid _ := elq
        clear elq
        go_loopw [15, 16] (fun cy n wr => ∃ (r m : Nat) (nn cc : Int), n = .int .i64 nn ∧ cy = .int .i64 cc ∧ nn = (r : Int) * (j : Int) ∧ cc = (r : Int) * lq ∧ (r = 0 ∨ ((r - 1 : Nat) : Int) * (j : Int) < k) ∧ wr = w2.drewN m) (fun _ n _ => (k - intOf n).toNat)
        case atStart => exact ⟨0, 0, 0, 0, rfl, rfl, by simp, by simp, Or.inl rfl, rfl⟩
        case round =>
          obtain ⟨r, m, nn, cc, rfl, rfl, hn, hcc, hr, hwr⟩ := hrel
          have rb := renough_bd (k := k) (g := (j : Int)) (lq := lq) (r := r) j1 a5 a6 (by omega) (by omega) hr
          rw [← hn, ← hcc] at rb
          obtain ⟨rb1, rb2, rb3, rb4⟩ := rb
          have HNN : Hid _ := hn
          have HCC : Hid _ := hcc
          have HR : Hid _ := hr
          have HW : Hid _ := hwr
          have c10 : wr.cell? ⟨w.heap.size, 10, none⟩ = some (.slice (some ⟨b, off, none⟩) tl tc) := by rw [hwr]; exact q2 10
          have c11 : wr.cell? ⟨w.heap.size, 11, none⟩ = some (.int .i64 c.quantum) := by rw [hwr]; exact q2 11
          have cS : wr.cell? ⟨b, off + i, none⟩ = some (.slice ia il ic) := by rw [hwr]; exact hc2
          clear hn hcc hr hwr
          by_cases hlt : nn < k
          · have e1 : IntKind.i64.wrap ((il : Int) * c.quantum) = lq := by rw [ELQ.out, IntKind.wrap_i64]; omega
            have e2 : IntKind.i64.wrap (cc + lq) = cc + lq := by rw [IntKind.wrap_i64]; omega
            go_wp2
            go_quiet (fail)
            go_wp2
            go_roundw
            case rel =>
              refine ⟨r + 1, m + nq, nn + j, cc + lq, rfl, ?_, next_place HNN.out, next_place HCC.out, Or.inr ?_, by rw [HW.out, World.drewN_drewN]⟩
              · first | rfl | (simp only [e1, e2])
              · simp only [Nat.add_sub_cancel]; rw [← HNN.out]; exact hlt
            case measure => simp [intOf]; omega
          · have hre : (r : Int) = roundsZ k (gZ c) := by rw [← HG.out]; exact rounds_eq j1 a5 (by rw [← HNN.out]; omega) HR.out
            have hfin : cc = enoughN c i d k := by
              rw [HN.out.2, HCC.out, ← hre, ← ELQ.out, Int.mul_assoc]
            have HF : Hid _ := hfin
            clear hre hfin
            go_wp2
            go_ret2
            exact ⟨ret_two HF.out HN.out.1.symm, by rw [HW.out]; exact below_drewN k2.below _⟩

theorem renough_any (c : Cf) (s : Sl) (core d k : Int) (w : World) (h : CfgAt w c s) :
    Calls Tryz.prog 89 #[cfgV c s, .int .i64 core, .int .i64 d, .int .i64 k] w fun e w' => e = .returned (.tuple #[.int .i64 (enoughN c core d k), .int .i64 (enoughE c core d k)]) ∧ Below w.heap.size w w' := by
  by_cases hz : chk c = 0
  · by_cases hok : 0 ≤ core ∧ core < c.cores ∧ 0 ≤ d ∧ d < c.domains ∧ 0 ≤ k ∧ k ≤ 64
    · obtain ⟨i, rfl⟩ := Int.eq_ofNat_of_zero_le hok.1
      have R := right_of hz
      have hi : i < s.tl := by
        have e1 := R.tl
        have e2 := h.turns.hlen
        omega
      obtain ⟨wa, wl, wc, sa, sl, sc, ta, tl, tc⟩ := s
      obtain ⟨b, off, ia, il, ic, hta, hc, hints⟩ := h.turns.hat i hi
      simp only at hta
      subst hta
      exact renough_yes c wa wl wc sa sl sc b off tl tc i d k w h hz ia il ic _ rfl hi hc hints hok
    · exact renough_no c s core d k w h hz hok
  · exact renough_bad c s core d k w h hz
end Go.Proofs.YtcmcfafhllpojaaGreat
