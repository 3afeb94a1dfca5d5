/-
  What is known of a right configuration.
-/
import Derived.Test.YtcmcfafhllpojaaBase
import Derived.Test.YtcmcfafhllpojaaMath
namespace Go.Proofs.Ytcmcfafhllpojaa
open Go.RowKit

theorem chk_zero {c : Cf} (h : chk c = 0) : shapeB c = true ∧ waysB c = true ∧ slotsB c = true ∧ turnsB c = true ∧ quantumB c = true := by
  unfold chk at h
  cases h1 : shapeB c <;> cases h2 : waysB c <;> cases h3 : slotsB c <;> cases h4 : turnsB c <;> cases h5 : quantumB c <;> simp_all

/-- The bounds of a right configuration. -/
structure Right (c : Cf) : Prop where
  c1 : 1 ≤ c.cores
  c2 : c.cores ≤ 3
  d1 : 1 ≤ c.domains
  d2 : c.domains ≤ 4
  s1 : 1 ≤ c.slot
  s2 : c.slot ≤ 4
  t1 : 1 ≤ c.slots.length
  t2 : c.slots.length ≤ 8
  w0 : 0 ≤ worstZ c
  w1 : worstZ c ≤ 288
  f1 : 1 ≤ c.flush
  f2 : c.flush ≤ 16
  q1 : worstZ c + c.flush + 1 ≤ c.quantum
  q2 : c.quantum ≤ 2000
  tl : (c.turns.length : Int) = c.cores
  each : ∀ l ∈ c.turns, listB l 4 (-1) (c.domains - 1) = true

theorem right_of {c : Cf} (h : chk c = 0) : Right c := by
  obtain ⟨h1, h2, h3, h4, h5⟩ := chk_zero h
  obtain ⟨d1, d2, d3, d4, d5, _⟩ := shape_bounds h1
  obtain ⟨e1, e2, e3, e4⟩ := slots_bounds h3
  obtain ⟨g1, g2⟩ := worst_bd d1 d2 e1 e2 e4
  simp only [quantumB, Bool.and_eq_true, within_iff] at h5
  simp only [turnsB, Bool.and_eq_true, beq_iff_eq, List.all_eq_true] at h4
  exact ⟨d1, d2, d3, d4, e1, e2, e3, e4, g1, g2, by omega, by omega, h5.2.1, h5.2.2, h4.1, h4.2⟩

theorem ret_two {j k : IntKind} {a b c d : Int} (h : a = b) (g : c = d) : Ending.returned (.tuple #[.int j a, .int k c]) = .returned (.tuple #[.int j b, .int k d]) := by rw [h, g]

theorem ret_three {j k : IntKind} {a b c d : Int} {x y : Bool} (h : a = b) (hx : x = y) (g : c = d) : Ending.returned (.tuple #[.int j a, .bool x, .int k c]) = .returned (.tuple #[.int j b, .bool y, .int k d]) := by rw [h, hx, g]

theorem grid_row {c : Cf} (R : Right c) {i : Nat} (h : i < c.turns.length) : (c.turns.getD i []).length ≤ 4 ∧ 1 ≤ (c.turns.getD i []).length := by
  have e : c.turns.getD i [] = c.turns[i] := by simp [List.getD, h]
  have := R.each _ (List.getElem_mem h)
  rw [← e] at this
  simp only [listB, Bool.and_eq_true, decide_eq_true_eq] at this
  omega

/-- The table's place of a cycle. -/
theorem mod_nat {a : Int} {n : Nat} (hn : 0 < n) : ∃ j : Nat, a % (n : Int) = (j : Int) ∧ j < n := by
  have h1 := Int.emod_nonneg a (show (n : Int) ≠ 0 by omega)
  have h2 := Int.emod_lt_of_pos a (show (0 : Int) < (n : Int) by omega)
  obtain ⟨j, hj⟩ := Int.eq_ofNat_of_zero_le h1
  exact ⟨j, hj, by omega⟩
end Go.Proofs.Ytcmcfafhllpojaa
