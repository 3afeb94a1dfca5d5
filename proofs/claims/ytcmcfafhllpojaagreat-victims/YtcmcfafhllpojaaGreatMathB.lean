/-
  The plain mathematics of Enough.
-/
import Derived.Test.YtcmcfafhllpojaaGreatMath
namespace Go.Proofs.YtcmcfafhllpojaaGreat

/-- How many operations a turn has room for, where a turn has D open cycles and an operation takes at most S. -/
def perTurn (D S : Int) : Int := 1 + (D - 1) / S
def roundsZ (k g : Int) : Int := (k + g - 1) / g

theorem div_is {a b q : Int} (hb : 0 < b) (h1 : q * b ≤ a) (h2 : a < q * b + b) : a / b = q := by
  have e : a = (a - q * b) + q * b := by omega
  rw [e, Int.add_mul_ediv_right _ _ (by omega), Int.ediv_eq_zero_of_lt (by omega) (by omega)]
  omega

theorem perTurn_bd {D S : Int} (h1 : 1 ≤ D) (h2 : 1 ≤ S) : 1 ≤ perTurn D S ∧ perTurn D S ≤ D := by
  unfold perTurn
  have a : 0 ≤ (D - 1) / S := Int.ediv_nonneg (by omega) (by omega)
  have b : (D - 1) / S ≤ D - 1 := Int.ediv_le_self _ (by omega)
  omega

theorem perTurn_eq {D S : Int} {j : Nat} (hS : 1 ≤ S) (h1 : D ≤ j * S) (h2 : j = 0 ∨ (((j - 1 : Nat) : Int) * S < D)) (hD : 1 ≤ D) : (j : Int) = perTurn D S := by
  have hj : j ≠ 0 := by
    intro e
    subst e
    simp at h1
    omega
  have h3 : ((j - 1 : Nat) : Int) * S < D := by
    rcases h2 with h2 | h2
    · exact absurd h2 hj
    · exact h2
  have e : ((j - 1 : Nat) : Int) = (j : Int) - 1 := by omega
  rw [e] at h3
  have e2 : ((j : Int) - 1) * S = (j : Int) * S - S := by rw [Int.sub_mul]; omega
  unfold perTurn
  have : (D - 1) / S = (j : Int) - 1 := div_is (by omega) (by omega) (by omega)
  omega

theorem rounds_eq {k g : Int} {r : Nat} (hg : 1 ≤ g) (hk : 0 ≤ k) (h1 : k ≤ r * g) (h2 : r = 0 ∨ (((r - 1 : Nat) : Int) * g < k)) : (r : Int) = roundsZ k g := by
  unfold roundsZ
  symm
  rcases h2 with h2 | h2
  · subst h2
    simp at h1
    have : k = 0 := by omega
    subst this
    exact div_is (by omega) (by simp; omega) (by simp; omega)
  · have hr : r ≠ 0 := by
      intro e
      subst e
      simp at h1 h2
      omega
    have e : ((r - 1 : Nat) : Int) = (r : Int) - 1 := by omega
    rw [e] at h2
    have e2 : ((r : Int) - 1) * g = (r : Int) * g - g := by rw [Int.sub_mul]; omega
    exact div_is (by omega) (by omega) (by omega)

theorem rounds_bd {k g : Int} (h1 : 0 ≤ k) (h2 : 1 ≤ g) : 0 ≤ roundsZ k g ∧ roundsZ k g ≤ k := by
  unfold roundsZ
  refine ⟨Int.ediv_nonneg (by omega) (by omega), ?_⟩
  have h3 : (k + g - 1) / g * g ≤ k + g - 1 := Int.ediv_mul_le _ (by omega)
  by_cases hk : (k + g - 1) / g ≤ k
  · exact hk
  · exfalso
    have h4 : k + 1 ≤ (k + g - 1) / g := by omega
    have h5 : (k + 1) * g ≤ (k + g - 1) / g * g := Int.mul_le_mul_of_nonneg_right h4 (by omega)
    have h6 : (k + 1) * g = k * g + g := by rw [Int.add_mul]; omega
    have h7 : k * 1 ≤ k * g := Int.mul_le_mul_of_nonneg_left h2 h1
    omega

theorem step_bd {D S : Int} {j : Nat} (hS : 1 ≤ S) (hD : 1 ≤ D) (h2 : j = 0 ∨ (((j - 1 : Nat) : Int) * S < D)) : (j : Int) ≤ D ∧ (j : Int) * S < D + S ∧ 0 ≤ (j : Int) * S := by
  have h0 : 0 ≤ (j : Int) * S := Int.mul_nonneg (by omega) (by omega)
  rcases h2 with h2 | h2
  · subst h2; simp; omega
  · by_cases hj : j = 0
    · subst hj; simp; omega
    · have e : ((j - 1 : Nat) : Int) = (j : Int) - 1 := by omega
      rw [e] at h2
      have e2 : ((j : Int) - 1) * S = (j : Int) * S - S := by rw [Int.sub_mul]; omega
      have h3 : ((j : Int) - 1) * 1 ≤ ((j : Int) - 1) * S := Int.mul_le_mul_of_nonneg_left hS (by omega)
      omega

def enoughOk (c : Cf) (core d k : Int) : Bool := decide (0 ≤ core ∧ core < c.cores ∧ 0 ≤ d ∧ d < c.domains ∧ 0 ≤ k ∧ k ≤ 64) && !(((c.turns.getD core.toNat []).count d : Int) == 0)
def enoughE (c : Cf) (core d k : Int) : Int := if chk c = 0 then (if enoughOk c core d k = true then 0 else 6) else chk c
def gZ (c : Cf) : Int := perTurn (c.quantum - c.flush - worstZ c) (worstZ c + 1)
def enoughN (c : Cf) (core d k : Int) : Int := if chk c = 0 ∧ enoughOk c core d k = true then roundsZ k (gZ c) * ((c.turns.getD core.toNat []).length : Int) * c.quantum else 0

theorem enough_bad {c : Cf} {core d k : Int} (h : chk c ≠ 0) : enoughE c core d k = chk c ∧ enoughN c core d k = 0 := by
  simp [enoughE, enoughN, h]
theorem enough_no {c : Cf} {core d k : Int} (h : chk c = 0) (h2 : enoughOk c core d k = false) : enoughE c core d k = 6 ∧ enoughN c core d k = 0 := by
  simp [enoughE, enoughN, h, h2]
theorem enough_yes {c : Cf} {core d k : Int} (h : chk c = 0) (h2 : enoughOk c core d k = true) : enoughE c core d k = 0 ∧ enoughN c core d k = roundsZ k (gZ c) * ((c.turns.getD core.toNat []).length : Int) * c.quantum := by
  simp [enoughE, enoughN, h, h2]
theorem ok_not {c : Cf} {core d k : Int} (h : ¬ (0 ≤ core ∧ core < c.cores ∧ 0 ≤ d ∧ d < c.domains ∧ 0 ≤ k ∧ k ≤ 64)) : enoughOk c core d k = false := by
  unfold enoughOk
  rw [decide_eq_false h]
  rfl
theorem ok_none {c : Cf} {core d k : Int} (h : (((c.turns.getD core.toNat []).count d : Int) == 0) = true) : enoughOk c core d k = false := by
  unfold enoughOk
  rw [h]
  simp
theorem ok_yes {c : Cf} {core d k : Int} (h : 0 ≤ core ∧ core < c.cores ∧ 0 ≤ d ∧ d < c.domains ∧ 0 ≤ k ∧ k ≤ 64) (h2 : (((c.turns.getD core.toNat []).count d : Int) == 0) = false) : enoughOk c core d k = true := by
  unfold enoughOk
  rw [decide_eq_true h, h2]
  rfl

end Go.Proofs.YtcmcfafhllpojaaGreat
