/-
  The walks of Worst.
-/
import Derived.Test.YtmcnilaepoempaaGreatConf5
import Derived.Test.YtmcnilaepoempaaGreatRef4
namespace Go.Proofs.YtmcnilaepoempaaGreat
open Go.RowKit

theorem chk_zero {c : Cf} (h : chk c = 0) : shapeB c = true ∧ waysB c = true ∧ slotsB c = true ∧ turnsB c = true ∧ quantumB c = true := by
  unfold chk at h
  cases h1 : shapeB c <;> cases h2 : waysB c <;> cases h3 : slotsB c <;> cases h4 : turnsB c <;> cases h5 : quantumB c <;> simp_all

/-- The bounds of a right configuration. -/
structure Right (c : Cf) : Prop where
  c1 : 1 ≤ c.cores
  c2 : c.cores ≤ 3
  d1 : 1 ≤ c.domains
  d2 : c.domains ≤ 4
  s1 : 1 ≤ c.slot
  s2 : c.slot ≤ 4
  t1 : 1 ≤ c.slots.length
  t2 : c.slots.length ≤ 8
  w0 : 0 ≤ worstZ c
  w1 : worstZ c ≤ 288
  f1 : 1 ≤ c.flush
  f2 : c.flush ≤ 16
  q1 : worstZ c + c.flush + 1 ≤ c.quantum
  q2 : c.quantum ≤ 2000
  tl : (c.turns.length : Int) = c.cores
  each : ∀ l ∈ c.turns, listB l 4 (-1) (c.domains - 1) = true

theorem right_of {c : Cf} (h : chk c = 0) : Right c := by
  obtain ⟨h1, h2, h3, h4, h5⟩ := chk_zero h
  obtain ⟨d1, d2, d3, d4, d5, _⟩ := shape_bounds h1
  obtain ⟨e1, e2, e3, e4⟩ := slots_bounds h3
  obtain ⟨g1, g2⟩ := worst_bd d1 d2 e1 e2 e4
  simp only [quantumB, Bool.and_eq_true, within_iff] at h5
  simp only [turnsB, Bool.and_eq_true, beq_iff_eq, List.all_eq_true] at h4
  exact ⟨d1, d2, d3, d4, e1, e2, e3, e4, g1, g2, by omega, by omega, h5.2.1, h5.2.2, h4.1, h4.2⟩

def worstR (c : Cf) : Int := if chk c = 0 then worstZ c else 0

theorem ret_two {j k : IntKind} {a b c d : Int} (h : a = b) (g : c = d) : Ending.returned (.tuple #[.int j a, .int k c]) = .returned (.tuple #[.int j b, .int k d]) := by rw [h, g]

set_option maxHeartbeats 800000 in
theorem Worst_any (c : Cf) (s : Sl) (w : World) (h : CfgAt w c s) :
    Calls Tryz.prog 33 #[cfgV c s] w fun e w' => e = .returned (.tuple #[.int .i64 (worstR c), .int .i64 (chk c)]) ∧ Below w.heap.size w w' := by
  have k0 := Kept.start w (cfgA c s) 43
  by_cases hz : chk c = 0
  · have R := right_of hz
    have HR : Hid (worstR c = worstZ c) := by unfold worstR Hid; rw [if_pos hz]
    have HZ : Hid _ := hz
    have hb : (chk c != 0) = false := by simp [hz]
    clear hz
    go_enter Tryz.func33, Tryz.ntmps33
    go_wp2_with fail
    refine (check_any c s _ (h.below k0.below (Nat.le_refl _))).mono ?_; rintro e w1 ⟨rfl, hb1⟩; have k1 := k0.next hb1 rfl; have q1 := k1.box
    go_wp2_with fail
    refine (worst_any c s _ (h.below k1.below (Nat.le_refl _)) R.c1 R.c2 R.s1 R.s2 R.t2).mono ?_; rintro e w2 ⟨rfl, hb2⟩; have k2 := k1.next hb2 rfl
    clear q1
    go_wp2
    go_ret2
    exact ⟨ret_two HR.out.symm HZ.out.symm, k2.below⟩
  · have hb : (chk c != 0) = true := by simpa using hz
    have HR : Hid (worstR c = 0) := by unfold worstR Hid; rw [if_neg hz]
    clear hz
    go_enter Tryz.func33, Tryz.ntmps33
    go_wp2_with fail
    refine (check_any c s _ (h.below k0.below (Nat.le_refl _))).mono ?_; rintro e w1 ⟨rfl, hb1⟩; have k1 := k0.next hb1 rfl; have q1 := k1.box
    go_wp2
    go_ret2
    exact ⟨ret_two HR.out.symm rfl, k1.below⟩

set_option maxHeartbeats 800000 in
theorem rWorst_any (c : Cf) (s : Sl) (w : World) (h : CfgAt w c s) :
    Calls Tryz.prog 34 #[cfgV c s] w fun e w' => e = .returned (.tuple #[.int .i64 (worstR c), .int .i64 (chk c)]) ∧ Below w.heap.size w w' := by
  have k0 := Kept.start w (cfgA c s) 43
  by_cases hz : chk c = 0
  · have R := right_of hz
    have HR : Hid (worstR c = worstZ c) := by unfold worstR Hid; rw [if_pos hz]
    have HZ : Hid _ := hz
    have hb : (chk c != 0) = false := by simp [hz]
    clear hz
    go_enter Tryz.func34, Tryz.ntmps34
    go_wp2_with fail
    refine (rcheck_any c s _ (h.below k0.below (Nat.le_refl _))).mono ?_; rintro e w1 ⟨rfl, hb1⟩; have k1 := k0.next hb1 rfl; have q1 := k1.box
    go_wp2_with fail
    refine (rworst_any c s _ (h.below k1.below (Nat.le_refl _)) R.c1 R.c2 R.s1 R.s2 R.t2).mono ?_; rintro e w2 ⟨rfl, hb2⟩; have k2 := k1.next hb2 rfl
    clear q1
    go_wp2
    go_ret2
    exact ⟨ret_two HR.out.symm HZ.out.symm, k2.below⟩
  · have hb : (chk c != 0) = true := by simpa using hz
    have HR : Hid (worstR c = 0) := by unfold worstR Hid; rw [if_neg hz]
    clear hz
    go_enter Tryz.func34, Tryz.ntmps34
    go_wp2_with fail
    refine (rcheck_any c s _ (h.below k0.below (Nat.le_refl _))).mono ?_; rintro e w1 ⟨rfl, hb1⟩; have k1 := k0.next hb1 rfl; have q1 := k1.box
    go_wp2
    go_ret2
    exact ⟨ret_two HR.out.symm rfl, k1.below⟩

end Go.Proofs.YtmcnilaepoempaaGreat
