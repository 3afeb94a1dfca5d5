/-
  The walks of wallsref's Turn, serves, wait, Wait.
-/
import Derived.Test.YtehheaedbnfidaaGreatClRefT
namespace Go.Proofs.YtehheaedbnfidaaGreat
open Go.RowKit



set_option maxRecDepth 100000 in
set_option maxHeartbeats 1600000 in
theorem rTurn_any (c : Cf) (s : Sl) (core t : Int) (w : World) (h : CfgAt w c s) :
    Calls Tryz.prog 40 #[cfgV c s, .int .i64 core, .int .i64 t] w fun e w' => e = .returned (.tuple #[.int .i64 (turnD c core t), .bool (turnO c core t), .int .i64 (turnE c core t)]) ∧ Below w.heap.size w w' := by
  have k0 := Kept.start w (cfgA c s) 43
  by_cases hz : chk c = 0
  · have hb : (chk c != 0) = false := by simp [hz]
    have R := right_of hz
    have c2 := R.c2
    by_cases hok : 0 ≤ core ∧ core < c.cores ∧ 0 ≤ t ∧ t ≤ 10000
    · have HN : Hid _ := turn_yes (c := c) (core := core) (t := t) hz (decide_eq_true hok)
      obtain ⟨a1, a2, a3, a4⟩ := hok
      obtain ⟨i, rfl⟩ := Int.eq_ofNat_of_zero_le a1
      rw [Int.toNat_natCast] at HN
      clear hz
      go_enter Tryz.func40, Tryz.ntmps40
      go_wp2_with fail
      refine (rcheck_any c s _ (h.below k0.below (Nat.le_refl _))).mono ?_; rintro e w1 ⟨rfl, hb1⟩; have k1 := k0.next hb1 rfl; have p1 := k1.box
      go_wp2_with fail
      refine (rturn_any c s i t _ (h.below k1.below (Nat.le_refl _)) R a2 a3 (by omega)).mono ?_; rintro e w2 ⟨rfl, hb2⟩; have k2 := k1.next hb2 rfl; have p2 := k2.box
      clear p1
      go_wp2_with fail
      refine (ropen_any c s i _ t _ (h.below k2.below (Nat.le_refl _)) R a2 a3 (by omega)).mono ?_; rintro e w3 ⟨rfl, hb3⟩; have k3 := k2.next hb3 rfl
      clear p2
      go_wp2
      go_ret3
      exact ⟨ret_three HN.out.2.1.symm HN.out.2.2.symm HN.out.1.symm, k3.below⟩
    · have HN : Hid _ := turn_no (c := c) (core := core) (t := t) hz (decide_eq_false hok)
      clear hz
      have cases : core < 0 ∨ (0 ≤ core ∧ c.cores ≤ core) ∨ (0 ≤ core ∧ core < c.cores ∧ t < 0) ∨ (0 ≤ core ∧ core < c.cores ∧ 0 ≤ t ∧ 10000 < t) := by omega
      clear hok
      rcases cases with a1 | ⟨a1, a2⟩ | ⟨a1, a2, a3⟩ | ⟨a1, a2, a3, a4⟩
      all_goals
        go_enter Tryz.func40, Tryz.ntmps40
        go_wp2_with fail
        refine (rcheck_any c s _ (h.below k0.below (Nat.le_refl _))).mono ?_
        rintro e w1 ⟨rfl, hb1⟩
        have k1 := k0.next hb1 rfl
        have p1 := k1.box
        go_wp2
        go_ret3
        exact ⟨ret_three HN.out.2.1.symm HN.out.2.2.symm HN.out.1.symm, k1.below⟩
  · have hb : (chk c != 0) = true := by simpa using hz
    have HN : Hid _ := turn_bad (core := core) (t := t) hz
    clear hz
    go_enter Tryz.func40, Tryz.ntmps40
    go_wp2_with fail
    refine (rcheck_any c s _ (h.below k0.below (Nat.le_refl _))).mono ?_; rintro e w1 ⟨rfl, hb1⟩; have k1 := k0.next hb1 rfl; have p1 := k1.box
    go_wp2
    go_ret3
    exact ⟨ret_three HN.out.2.1.symm HN.out.2.2.symm HN.out.1.symm, k1.below⟩

set_option maxRecDepth 100000 in
set_option maxHeartbeats 800000 in
theorem rserves_any (c : Cf) (s : Sl) (d t : Int) (w : World) (h : CfgAt w c s) (R : Right c) (t0 : 0 ≤ t) (t1 : t ≤ 100000) :
    Calls Tryz.prog 120 #[cfgV c s, .int .i64 d, .int .i64 t] w fun e w' => e = .returned (.bool (servesB c d t)) ∧ Below w.heap.size w w' := by
  have k0 := Kept.start w (cfgA c s) 43
  obtain ⟨wa, wl, wc, sa, sl, sc, ta, tl, tc⟩ := s
  have s1 := R.s1
  have s2 := R.s2
  have hlen := h.slots.hlen
  have hle := h.slots.hle
  simp only at hlen hle
  have l1 := R.t1
  have l2 := R.t2
  rw [hlen] at l1 l2
  have y1 : 0 < c.slot := by omega
  have y0 : ¬ c.slot = 0 := by omega
  have y2 : 0 ≤ t / c.slot := Int.ediv_nonneg t0 (by omega)
  have y3 : t / c.slot ≤ t := Int.ediv_le_self _ t0
  have i1 : (0 : Int) < (sl : Int) := by omega
  have i0 : ¬ (sl : Int) = 0 := by omega
  have hz : servesB c d t = ((t % c.slot == c.slot - 1) && (c.slots.getD (t / c.slot % (sl : Int)).toNat 0 == d)) := by unfold servesB; rw [hlen]
  obtain ⟨j, hj, hjl⟩ := mod_nat (a := t / c.slot) (n := sl) (by omega)
  rw [hj, Int.toNat_natCast] at hz
  obtain ⟨b, off, hsa, hc⟩ := h.slots.hat j hjl
  simp only at hsa
  subst hsa
  have HBD : b < w.heap.size := cell_lt hc
  generalize c.slots.getD j 0 = v at *
  have hv : IntKind.i64.wrap (c.slot - 1) = c.slot - 1 := by rw [IntKind.wrap_i64]; omega
  have HL : Hid _ := hlen
  clear hlen
  rcases Bool.eq_false_or_eq_true (t % c.slot == c.slot - 1) with a1 | a1
  · have HZ : Hid (servesB c d t = (v == d)) := by unfold Hid; rw [hz, a1]; rfl
    have c8 : (w.alloc (.cells (cfgA c ⟨wa, wl, wc, some ⟨b, off, none⟩, sl, sc, ta, tl, tc⟩) 43)).cell? ⟨w.heap.size, 8, none⟩ = some (.int .i64 c.slot) := k0.box 8
    have c9 : (w.alloc (.cells (cfgA c ⟨wa, wl, wc, some ⟨b, off, none⟩, sl, sc, ta, tl, tc⟩) 43)).cell? ⟨w.heap.size, 9, none⟩ = some (.slice (some ⟨b, off, none⟩) sl sc) := k0.box 9
    have cv : (w.alloc (.cells (cfgA c ⟨wa, wl, wc, some ⟨b, off, none⟩, sl, sc, ta, tl, tc⟩) 43)).cell? ⟨b, off + j, none⟩ = some (.int .i64 v) := by rw [k0.below.cell (p := ⟨b, off + j, none⟩) HBD]; exact hc
    clear hz
    go_enter Tryz.func120, Tryz.ntmps120
    go_wp2_with fail
    generalize (w.alloc (.cells (cfgA c ⟨wa, wl, wc, some ⟨b, off, none⟩, sl, sc, ta, tl, tc⟩) 43)) = W at *
    go_quiet (fail)
    go_wp2
    go_ret
    exact ⟨ret_bool HZ.out.symm, below_drewN k0.below _⟩
  · have HZ : Hid (servesB c d t = false) := by unfold Hid; rw [hz, a1]; rfl
    have c8 : (w.alloc (.cells (cfgA c ⟨wa, wl, wc, some ⟨b, off, none⟩, sl, sc, ta, tl, tc⟩) 43)).cell? ⟨w.heap.size, 8, none⟩ = some (.int .i64 c.slot) := k0.box 8
    clear hz
    go_enter Tryz.func120, Tryz.ntmps120
    go_wp2_with fail
    generalize (w.alloc (.cells (cfgA c ⟨wa, wl, wc, some ⟨b, off, none⟩, sl, sc, ta, tl, tc⟩) 43)) = W at *
    go_quiet (fail)
    go_wp2
    go_ret
    exact ⟨ret_bool HZ.out.symm, below_drewN k0.below _⟩
end Go.Proofs.YtehheaedbnfidaaGreat
