/-
  The plain mathematics of Wait, slot by slot.
-/
import Derived.Test.YtcmcfafhllpojaaMathP
import Derived.Test.YtcmcfafhllpojaaRightC
namespace Go.Proofs.Ytcmcfafhllpojaa

theorem firstF_eq {p : Int → Bool} : ∀ (n : Nat) (u m : Int), u ≤ m → m < u + n → p m = true → (∀ v, u ≤ v → v < m → p v = false) → firstF p n u = m
  | 0, u, m, h1, h2, _, _ => by omega
  | n + 1, u, m, h1, h2, h3, h4 => by
    unfold firstF
    by_cases e : u = m
    · subst e; rw [if_pos h3]
    · rw [if_neg (by rw [h4 u (by omega) (by omega)]; simp)]
      exact firstF_eq n (u + 1) m (by omega) (by omega) h3 (fun v hv1 hv2 => h4 v (by omega) hv2)

/-- Whose the slot k is. -/
def ownZ (c : Cf) (k : Int) : Int := c.slots.getD (k % (c.slots.length : Int)).toNat 0

theorem some_slot {c : Cf} {d : Int} (h : 0 < c.slots.count d) (q : Int) : ∃ i : Nat, i < c.slots.length ∧ ownZ c (q + i) = d := by
  have hm : d ∈ c.slots := List.count_pos_iff.1 h
  obtain ⟨j, hj, e⟩ := List.getElem_of_mem hm
  have hl : 0 < c.slots.length := by omega
  have h1 := Int.emod_nonneg ((j : Int) - q) (show (c.slots.length : Int) ≠ 0 by omega)
  have h2 := Int.emod_lt_of_pos ((j : Int) - q) (show (0 : Int) < (c.slots.length : Int) by omega)
  obtain ⟨i, hi⟩ := Int.eq_ofNat_of_zero_le h1
  refine ⟨i, by omega, ?_⟩
  unfold ownZ
  rw [← hi, Int.add_comm, Int.emod_add_emod, show (j : Int) - q + q = (j : Int) by omega, Int.emod_eq_of_lt (by omega) (by omega), Int.toNat_natCast]
  simp [List.getD, hj, e]

theorem last_slot {c : Cf} {d : Int} (h : 0 < c.slots.count d) (q : Int) (n : Nat) (hn : n + 1 = c.slots.length) (hno : ∀ i : Nat, i < n → ownZ c (q + i) ≠ d) : ownZ c (q + n) = d := by
  obtain ⟨i, hi, he⟩ := some_slot h q
  by_cases e : i < n
  · exact absurd he (hno i e)
  · have : i = n := by omega
    subst this; exact he

theorem wait_at {c : Cf} {d t : Int} (s1 : 1 ≤ c.slot) (t0 : 0 ≤ t) (j : Nat) (hj : j < c.slots.length) (he : ownZ c (t / c.slot + j) = d) (hno : ∀ i : Nat, i < j → ownZ c (t / c.slot + i) ≠ d) : waitZ c d t = (t / c.slot + j) * c.slot + c.slot - 1 := by
  have hd := Int.mul_ediv_add_emod t c.slot
  have r0 := Int.emod_nonneg t (show c.slot ≠ 0 by omega)
  have r1 := Int.emod_lt_of_pos t (show 0 < c.slot by omega)
  rw [Int.mul_comm] at hd
  generalize hq : t / c.slot = q at *
  have q0 : 0 ≤ q := by rw [← hq]; exact Int.ediv_nonneg t0 (by omega)
  have p1 : (0 : Int) ≤ (j : Int) * c.slot := Int.mul_nonneg (by omega) (by omega)
  have p2 : ((j : Int) + 1) * c.slot ≤ (c.slots.length : Int) * c.slot := Int.mul_le_mul_of_nonneg_right (by omega) (by omega)
  have e1 : ((j : Int) + 1) * c.slot = (j : Int) * c.slot + c.slot := by rw [Int.add_mul]; omega
  have e2 : (q + j) * c.slot = q * c.slot + (j : Int) * c.slot := Int.add_mul ..
  have e3 : (q + j) * c.slot + c.slot - 1 = (c.slot - 1) + (q + j) * c.slot := by omega
  have m1 : ((c.slot - 1) + (q + j) * c.slot) % c.slot = c.slot - 1 := by
    rw [Int.add_mul_emod_self_right, Int.emod_eq_of_lt (by omega) (by omega)]
  have m2 : ((c.slot - 1) + (q + j) * c.slot) / c.slot = q + j := by
    rw [Int.add_mul_ediv_right _ _ (by omega), Int.ediv_eq_zero_of_lt (by omega) (by omega)]; omega
  unfold waitZ
  refine firstF_eq _ _ _ (by omega) ?_ ?_ ?_
  · rw [Int.toNat_of_nonneg (by omega)]; omega
  · rw [e3]
    unfold servesB
    rw [m1, m2]
    have : c.slots.getD ((q + (j : Int)) % (c.slots.length : Int)).toNat 0 = d := he
    rw [this]
    simp
  · intro v hv1 hv2
    unfold servesB
    by_cases g : v % c.slot = c.slot - 1
    · have hv := Int.mul_ediv_add_emod v c.slot
      rw [Int.mul_comm, g] at hv
      have l1 : q ≤ v / c.slot := by rw [← hq]; exact Int.ediv_le_ediv (by omega) hv1
      have l2 : v / c.slot * c.slot < (q + j) * c.slot := by omega
      have l3 : v / c.slot < q + j := Int.lt_of_mul_lt_mul_right l2 (by omega)
      obtain ⟨i, hi⟩ := Int.eq_ofNat_of_zero_le (show 0 ≤ v / c.slot - q by omega)
      have := hno i (by omega)
      rw [show q + (i : Int) = v / c.slot by omega] at this
      have this' : c.slots.getD (v / c.slot % (c.slots.length : Int)).toNat 0 ≠ d := this
      simp only [Bool.and_eq_false_iff, beq_eq_false_iff_ne]
      exact Or.inr this'
    · simp [g]
end Go.Proofs.Ytcmcfafhllpojaa
