/-
  The plain mathematics of the table: how many service cycles a round has.
-/
import Derived.Test.YtcmcfafhllpojaaMathT
namespace Go.Proofs.Ytcmcfafhllpojaa

/-- How many of the n from u on p holds of. -/
def cntF (p : Int → Bool) : Nat → Int → Nat
  | 0, _ => 0
  | n + 1, u => (if p u = true then 1 else 0) + cntF p n (u + 1)

theorem cntF_snoc (p : Int → Bool) : ∀ (n : Nat) (u : Int), cntF p (n + 1) u = cntF p n u + (if p (u + n) = true then 1 else 0)
  | 0, u => by simp [cntF]
  | n + 1, u => by
    rw [cntF, cntF_snoc p n (u + 1), cntF]
    rw [show u + 1 + (n : Int) = u + ((n + 1 : Nat) : Int) by omega]
    omega

theorem cntF_add (p : Int → Bool) : ∀ (n m : Nat) (u : Int), cntF p (n + m) u = cntF p n u + cntF p m (u + n)
  | 0, m, u => by simp [cntF]
  | n + 1, m, u => by
    rw [show n + 1 + m = (n + m) + 1 by omega, cntF, cntF_add p n m (u + 1), cntF]
    rw [show u + 1 + (n : Int) = u + ((n + 1 : Nat) : Int) by omega]
    omega

theorem cntF_shift {p : Int → Bool} {L : Nat} (hp : ∀ u, p (u + L) = p u) (u : Int) : cntF p L (u + 1) = cntF p L u := by
  have h1 : cntF p (L + 1) u = (if p u = true then 1 else 0) + cntF p L (u + 1) := rfl
  have h2 := cntF_snoc p L u
  rw [hp u] at h2
  omega

theorem cntF_shiftN {p : Int → Bool} {L : Nat} (hp : ∀ u, p (u + L) = p u) : ∀ (n : Nat), cntF p L (n : Int) = cntF p L 0
  | 0 => rfl
  | n + 1 => by
    rw [show ((n + 1 : Nat) : Int) = (n : Int) + 1 by omega, cntF_shift hp, cntF_shiftN hp n]

/-- One slot: just its last cycle counts. -/
theorem cntF_slot {p : Int → Bool} {q : Nat → Bool} {s : Nat} (hs : 0 < s) (k : Nat) (hp : ∀ i : Nat, i < s → p ((k * s + i : Nat) : Int) = (decide (i = s - 1) && q k)) : cntF p s ((k * s : Nat) : Int) = if q k = true then 1 else 0 := by
  obtain ⟨r, rfl⟩ : ∃ r, s = r + 1 := ⟨s - 1, by omega⟩
  have z : ∀ n : Nat, n ≤ r → cntF p n ((k * (r + 1) : Nat) : Int) = 0 := by
    intro n
    induction n with
    | zero => intro _; rfl
    | succ n ih =>
      intro hn
      rw [cntF_snoc, ih (by omega)]
      have := hp n (by omega)
      rw [show ((k * (r + 1) : Nat) : Int) + (n : Int) = ((k * (r + 1) + n : Nat) : Int) by omega, this, decide_eq_false (by omega)]
      simp
  rw [cntF_snoc, z r (Nat.le_refl _)]
  have := hp r (by omega)
  rw [show ((k * (r + 1) : Nat) : Int) + (r : Int) = ((k * (r + 1) + r : Nat) : Int) by omega, this, decide_eq_true (by omega)]
  simp

theorem cntF_table {p : Int → Bool} {q : Nat → Bool} {s : Nat} (hs : 0 < s) : ∀ (n : Nat), (∀ k i : Nat, k < n → i < s → p ((k * s + i : Nat) : Int) = (decide (i = s - 1) && q k)) → cntF p (n * s) 0 = ((List.range n).filter q).length
  | 0, _ => by simp [cntF]
  | n + 1, hp => by
    rw [show (n + 1) * s = n * s + s by rw [Nat.succ_mul], cntF_add, cntF_table hs n (fun k i hk hi => hp k i (by omega) hi)]
    rw [show (0 : Int) + ((n * s : Nat) : Int) = ((n * s : Nat) : Int) by omega, cntF_slot hs n (fun i hi => hp n i (by omega) hi)]
    rw [List.range_succ, List.filter_append, List.length_append]
    cases hq : q n <;> simp [hq]

theorem count_range (l : List Int) (d : Int) : ((List.range l.length).filter fun k => l.getD k 0 == d).length = l.count d := by
  induction l with
  | nil => rfl
  | cons x xs ih =>
    rw [List.length_cons, List.range_succ_eq_map, List.filter_cons, List.filter_map, List.count_cons]
    have e : ((fun k => (x :: xs).getD k 0 == d) ∘ Nat.succ) = fun k => xs.getD k 0 == d := by
      funext k; simp [List.getD]
    rw [e]
    by_cases h : x = d
    · subst h
      simp only [List.getD] at ih ⊢
      simpa using ih
    · simp only [List.getD] at ih ⊢
      simpa [h] using ih

/-- The first that p holds of, where there is one among the n. -/
theorem firstF_spec {p : Int → Bool} : ∀ (n : Nat) (u : Int), 0 < cntF p n u → u ≤ firstF p n u ∧ firstF p n u < u + n ∧ p (firstF p n u) = true ∧ ∀ v, u ≤ v → v < firstF p n u → p v = false
  | 0, u, h => by simp [cntF] at h
  | n + 1, u, h => by
    unfold firstF
    by_cases hp : p u = true
    · rw [if_pos hp]
      exact ⟨by omega, by omega, hp, fun v h1 h2 => by omega⟩
    · rw [if_neg hp]
      have h' : 0 < cntF p n (u + 1) := by
        rw [cntF, if_neg hp] at h
        omega
      obtain ⟨h1, h2, h3, h4⟩ := firstF_spec n (u + 1) h'
      refine ⟨by omega, by omega, h3, fun v hv1 hv2 => ?_⟩
      by_cases e : v = u
      · subst e; simpa using hp
      · exact h4 v (by omega) hv2

theorem firstF_none {p : Int → Bool} : ∀ (n : Nat) (u : Int), cntF p n u = 0 → firstF p n u = u + n ∧ ∀ v, u ≤ v → v < u + n → p v = false
  | 0, u, _ => ⟨by simp [firstF], fun v h1 h2 => by omega⟩
  | n + 1, u, h => by
    by_cases hp : p u = true
    · rw [cntF, if_pos hp] at h; omega
    · rw [cntF, if_neg hp] at h
      have h' : cntF p n (u + 1) = 0 := by simpa using h
      obtain ⟨h1, h2⟩ := firstF_none n (u + 1) h'
      unfold firstF
      rw [if_neg hp, h1]
      refine ⟨by omega, fun v hv1 hv2 => ?_⟩
      by_cases e : v = u
      · subst e; simpa using hp
      · exact h2 v (by omega) (by omega)

/-- Counting on behind the first. -/
theorem cntF_zero_of {p : Int → Bool} : ∀ (n : Nat) (u : Int), (∀ v, u ≤ v → v < u + n → p v = false) → cntF p n u = 0
  | 0, _, _ => rfl
  | n + 1, u, h => by
    rw [cntF, h u (by omega) (by omega), cntF_zero_of n (u + 1) (fun v h1 h2 => h v (by omega) (by omega))]
    simp

theorem cntF_jump {p : Int → Bool} {n m : Nat} {u : Int} (h0 : ∀ v, u ≤ v → v < u + m → p v = false) (hm : p (u + m) = true) (hmn : m < n) : cntF p n u = 1 + cntF p (n - m - 1) (u + m + 1) := by
  rw [show n = m + (1 + (n - m - 1)) by omega, cntF_add, cntF_zero_of m u h0, cntF_add]
  rw [show m + (1 + (n - m - 1)) - m - 1 = n - m - 1 by omega]
  simp [cntF, hm]

theorem allUpto_true {p : Int → Bool} : ∀ {n : Nat}, allUpto p n = true → ∀ k : Nat, k < n → p k = true
  | n + 1, h, k, hk => by
    simp only [allUpto, Bool.and_eq_true] at h
    by_cases e : k = n
    · subst e; exact h.2
    · exact allUpto_true h.1 k (by omega)

theorem owns_slot {c : Cf} (h : slotsB c = true) {d : Int} (h0 : 0 ≤ d) (h1 : d < c.domains) : 0 < c.slots.count d := by
  simp only [slotsB, Bool.and_eq_true] at h
  obtain ⟨i, rfl⟩ := Int.eq_ofNat_of_zero_le h0
  have := allUpto_true h.2 i (by omega)
  simp only [Bool.not_eq_true', beq_eq_false_iff_ne] at this
  omega

theorem serves_period (c : Cf) (d : Int) (hs : 1 ≤ c.slot) (u : Int) : servesB c d (u + ((c.slots.length * c.slot.toNat : Nat) : Int)) = servesB c d u := by
  have e : ((c.slots.length * c.slot.toNat : Nat) : Int) = (c.slots.length : Int) * c.slot := by
    rw [Int.natCast_mul, Int.toNat_of_nonneg (by omega)]
  have e1 : (u + (c.slots.length : Int) * c.slot) % c.slot = u % c.slot := by rw [Int.add_mul_emod_self_right]
  have e2 : (u + (c.slots.length : Int) * c.slot) / c.slot = u / c.slot + c.slots.length := Int.add_mul_ediv_right _ _ (by omega)
  have e3 : (u / c.slot + (c.slots.length : Int)) % (c.slots.length : Int) = u / c.slot % (c.slots.length : Int) := by rw [Int.add_emod_right]
  unfold servesB
  rw [e, e1, e2, e3]

theorem serves_table (c : Cf) (d : Int) (hs : 1 ≤ c.slot) (k i : Nat) (hk : k < c.slots.length) (hi : i < c.slot.toNat) :
    servesB c d ((k * c.slot.toNat + i : Nat) : Int) = (decide (i = c.slot.toNat - 1) && (c.slots.getD k 0 == d)) := by
  obtain ⟨s, hs'⟩ : ∃ s : Nat, c.slot = (s : Int) := ⟨c.slot.toNat, by omega⟩
  have hs2 : c.slot.toNat = s := by omega
  rw [hs2] at hi ⊢
  have hspos : 0 < s := by omega
  have e1 : ((k * s + i : Nat) : Int) % (s : Int) = (i : Int) := by
    rw [← Int.natCast_emod, Nat.mul_comm, Nat.mul_add_mod, Nat.mod_eq_of_lt hi]
  have e2 : ((k * s + i : Nat) : Int) / (s : Int) = (k : Int) := by
    rw [← Int.natCast_ediv, Nat.mul_comm, Nat.mul_add_div hspos, Nat.div_eq_of_lt hi, Nat.add_zero]
  have e3 : (k : Int) % (c.slots.length : Int) = (k : Int) := Int.emod_eq_of_lt (by omega) (by omega)
  unfold servesB
  rw [hs', e1, e2, e3, Int.toNat_natCast]
  congr 1
  by_cases h : i = s - 1
  · rw [decide_eq_true h]; simp; omega
  · rw [decide_eq_false h]; simp; omega

/-- In one round of the table a domain has as many service cycles as it owns slots. -/
theorem serves_count (c : Cf) (d : Int) (hs : 1 ≤ c.slot) (t : Nat) : cntF (servesB c d) (c.slots.length * c.slot.toNat) (t : Int) = c.slots.count d := by
  rw [cntF_shiftN (serves_period c d hs) t]
  rw [cntF_table (q := fun k => c.slots.getD k 0 == d) (s := c.slot.toNat) (by omega) c.slots.length (fun k i hk hi => serves_table c d hs k i hk hi)]
  exact count_range c.slots d

end Go.Proofs.Ytcmcfafhllpojaa
