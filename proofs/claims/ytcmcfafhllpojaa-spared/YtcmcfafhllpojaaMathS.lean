/-
  The plain mathematics of the victims: none is the way touched last; n in a row, each touched, are all n.
-/
import Derived.Test.YtcmcfafhllpojaaMathT
namespace Go.Proofs.Ytcmcfafhllpojaa

theorem latest_snoc (l : List Int) (v lo hi : Int) : latestZ (l ++ [v]) lo hi = if lo ≤ v ∧ v < hi then v else latestZ l lo hi := by
  unfold latestZ
  rw [List.reverse_append, List.reverse_singleton, List.singleton_append, List.find?_cons]
  by_cases h : lo ≤ v ∧ v < hi
  · rw [if_pos h, decide_eq_true h.1, decide_eq_true h.2]
    simp
  · rw [if_neg h]
    have : (decide (lo ≤ v) && decide (v < hi)) = false := by
      rw [← Bool.decide_and]; exact decide_eq_false h
    rw [this]

theorem latest_in (l : List Int) (lo hi : Int) : latestZ l lo hi = -1 ∨ (lo ≤ latestZ l lo hi ∧ latestZ l lo hi < hi) := by
  unfold latestZ
  cases h : l.reverse.find? (fun x => decide (lo ≤ x) && decide (x < hi)) with
  | none => left; rfl
  | some x =>
    right
    have := List.find?_some h
    simp at this
    simpa using this

/-- The victim out of three numbers: what was touched last of all, of the lower, of the upper two. -/
def vict4 (a b c : Int) : Int := if 0 ≤ a ∧ a < 2 then (if 0 ≤ c ∧ c < 3 then 3 else 2) else (if 0 ≤ b ∧ b < 1 then 1 else 0)
def vict2 (a : Int) : Int := if 0 ≤ a ∧ a < 1 then 1 else 0

theorem victim2_eq (l : List Int) : victimZ 2 l = vict2 (latestZ l 0 2) := by
  unfold victimZ vict2 lowHit
  rw [if_pos rfl]
  simp only [Bool.and_eq_true, decide_eq_true_eq]
  rfl

theorem victim4_eq (l : List Int) : victimZ 4 l = vict4 (latestZ l 0 4) (latestZ l 0 2) (latestZ l 2 4) := by
  unfold victimZ vict4 lowHit
  rw [if_neg (by decide), if_pos rfl]
  simp only [Bool.and_eq_true, decide_eq_true_eq]
  rfl

theorem vict2_bd (a : Int) : 0 ≤ vict2 a ∧ vict2 a < 2 := by unfold vict2; split <;> omega
theorem vict4_bd (a b c : Int) : 0 ≤ vict4 a b c ∧ vict4 a b c < 4 := by
  unfold vict4
  repeat' split
  all_goals omega

/-- Not the way that was touched last. -/
theorem spared2 (l : List Int) (v : Int) (h0 : 0 ≤ v) (h1 : v < 2) : victimZ 2 (l ++ [v]) ≠ v := by
  rw [victim2_eq, latest_snoc, if_pos ⟨h0, h1⟩]
  unfold vict2
  split <;> omega

theorem spared4 (l : List Int) (v : Int) (h0 : 0 ≤ v) (h1 : v < 4) : victimZ 4 (l ++ [v]) ≠ v := by
  rw [victim4_eq, latest_snoc, if_pos ⟨h0, h1⟩]
  unfold vict4
  by_cases h : v < 2
  · rw [if_pos ⟨h0, h⟩]
    split <;> omega
  · rw [if_neg (by omega)]
    split <;> omega

/-- The k-th list: k victims were told, each touched. -/
def after (n : Int) (l : List Int) : Nat → List Int
  | 0 => l
  | k + 1 => after n l k ++ [victimZ n (after n l k)]

/-- The k-th victim. -/
def vk (n : Int) (l : List Int) (k : Nat) : Int := victimZ n (after n l k)

theorem vk2 (l : List Int) : vk 2 l 1 ≠ vk 2 l 0 := by
  have h := vict2_bd (latestZ l 0 2)
  rw [← victim2_eq] at h
  exact spared2 l (victimZ 2 l) h.1 h.2

/-- The three numbers behind a touch. -/
theorem trio (l : List Int) (v : Int) (h0 : 0 ≤ v) (h1 : v < 4) : latestZ (l ++ [v]) 0 4 = v ∧ latestZ (l ++ [v]) 0 2 = (if v < 2 then v else latestZ l 0 2) ∧ latestZ (l ++ [v]) 2 4 = (if v < 2 then latestZ l 2 4 else v) := by
  refine ⟨by rw [latest_snoc, if_pos ⟨h0, h1⟩], ?_, ?_⟩
  · rw [latest_snoc]
    by_cases h : v < 2
    · rw [if_pos ⟨h0, h⟩, if_pos h]
    · rw [if_neg (by omega), if_neg h]
  · rw [latest_snoc]
    by_cases h : v < 2
    · rw [if_neg (by omega), if_pos h]
    · rw [if_pos (by omega), if_neg h]

/-- Two ways of one half, told one after the other. -/
theorem vict4_low {a b c : Int} (ha : ¬ (0 ≤ a ∧ a < 2)) : vict4 a b c = if 0 ≤ b ∧ b < 1 then 1 else 0 := by unfold vict4; rw [if_neg ha]
theorem vict4_high {a b c : Int} (ha : 0 ≤ a ∧ a < 2) : vict4 a b c = if 0 ≤ c ∧ c < 3 then 3 else 2 := by unfold vict4; rw [if_pos ha]

theorem vk4 (l : List Int) : (0 ≤ vk 4 l 0 ∧ vk 4 l 0 < 4) ∧ (0 ≤ vk 4 l 1 ∧ vk 4 l 1 < 4) ∧ (0 ≤ vk 4 l 2 ∧ vk 4 l 2 < 4) ∧ (0 ≤ vk 4 l 3 ∧ vk 4 l 3 < 4) ∧
    vk 4 l 1 ≠ vk 4 l 0 ∧ vk 4 l 2 ≠ vk 4 l 0 ∧ vk 4 l 2 ≠ vk 4 l 1 ∧ vk 4 l 3 ≠ vk 4 l 0 ∧ vk 4 l 3 ≠ vk 4 l 1 ∧ vk 4 l 3 ≠ vk 4 l 2 := by
  have bd : ∀ k, 0 ≤ vk 4 l k ∧ vk 4 l k < 4 := fun k => by
    unfold vk; rw [victim4_eq]; exact vict4_bd _ _ _
  have e : ∀ k, vk 4 l k = vict4 (latestZ (after 4 l k) 0 4) (latestZ (after 4 l k) 0 2) (latestZ (after 4 l k) 2 4) := fun k => by unfold vk; rw [victim4_eq]
  have t : ∀ k, latestZ (after 4 l (k + 1)) 0 4 = vk 4 l k ∧ latestZ (after 4 l (k + 1)) 0 2 = (if vk 4 l k < 2 then vk 4 l k else latestZ (after 4 l k) 0 2) ∧ latestZ (after 4 l (k + 1)) 2 4 = (if vk 4 l k < 2 then latestZ (after 4 l k) 2 4 else vk 4 l k) :=
    fun k => trio (after 4 l k) (vk 4 l k) (bd k).1 (bd k).2
  have i2 := latest_in (after 4 l 0) 0 2
  have i4 := latest_in (after 4 l 0) 2 4
  refine ⟨bd 0, bd 1, bd 2, bd 3, ?_⟩
  have b0 := bd 0
  have b1 := bd 1
  have b2 := bd 2
  have b3 := bd 3
  have e0 := e 0
  have e1 := e 1
  have e2 := e 2
  have e3 := e 3
  rw [(t 0).1, (t 0).2.1, (t 0).2.2] at e1
  rw [(t 1).1, (t 1).2.1, (t 1).2.2, (t 0).2.1, (t 0).2.2] at e2
  rw [(t 2).1, (t 2).2.1, (t 2).2.2, (t 1).2.1, (t 1).2.2, (t 0).2.1, (t 0).2.2] at e3
  generalize latestZ (after 4 l 0) 0 4 = A at *
  generalize latestZ (after 4 l 0) 0 2 = B at *
  generalize latestZ (after 4 l 0) 2 4 = C at *
  generalize vk 4 l 0 = v0 at *
  generalize vk 4 l 1 = v1 at *
  generalize vk 4 l 2 = v2 at *
  generalize vk 4 l 3 = v3 at *
  clear t e bd
  unfold vict4 at e0 e1 e2 e3
  by_cases h0 : v0 < 2
  · have h1 : ¬ v1 < 2 := by
      rw [if_pos ⟨b0.1, h0⟩] at e1
      split at e1 <;> omega
    have h2 : v2 < 2 := by
      rw [if_neg (by omega)] at e2
      split at e2 <;> omega
    have h3 : ¬ v3 < 2 := by
      rw [if_pos ⟨b2.1, h2⟩] at e3
      split at e3 <;> omega
    rw [if_pos ⟨b0.1, h0⟩] at e1
    rw [if_neg (by omega)] at e2
    rw [if_pos ⟨b2.1, h2⟩] at e3
    simp only [h0, h1, h2, if_true, if_false] at e1 e2 e3
    refine ⟨by omega, ?_, by omega, by omega, ?_, by omega⟩
    · intro he; rw [he] at e2; split at e2 <;> omega
    · intro he; rw [he] at e3; split at e3 <;> omega
  · have h1 : v1 < 2 := by
      rw [if_neg (by omega)] at e1
      split at e1 <;> omega
    have h2 : ¬ v2 < 2 := by
      rw [if_pos ⟨b1.1, h1⟩] at e2
      split at e2 <;> omega
    have h3 : v3 < 2 := by
      rw [if_neg (by omega)] at e3
      split at e3 <;> omega
    rw [if_neg (by omega)] at e1
    rw [if_pos ⟨b1.1, h1⟩] at e2
    rw [if_neg (by omega)] at e3
    simp only [h0, h1, h2, if_true, if_false] at e1 e2 e3
    refine ⟨by omega, ?_, by omega, by omega, ?_, by omega⟩
    · intro he; rw [he] at e2; split at e2 <;> omega
    · intro he; rw [he] at e3; split at e3 <;> omega

end Go.Proofs.Ytcmcfafhllpojaa
