/-
  The plain mathematics: what a right configuration is.
-/
import Derived.Test.YtcmcfafhllpojaaBase
namespace Go.Proofs.Ytcmcfafhllpojaa

def withinB (n lo hi : Int) : Bool := decide (lo ≤ n) && decide (n ≤ hi)
def smallB (n : Int) : Bool := n == 1 || n == 2 || n == 4
def listB (xs : List Int) (most lo hi : Int) : Bool := decide (1 ≤ (xs.length : Int)) && decide ((xs.length : Int) ≤ most) && xs.all (fun x => withinB x lo hi)
def wordsB (c : Cf) : Bool := smallB c.line && withinB c.priv c.line 64 && withinB c.shared 0 32 && (c.priv % c.line == 0) && (c.shared % c.line == 0)
def shapeB (c : Cf) : Bool := withinB c.cores 1 3 && withinB c.domains 1 4 && smallB c.near && smallB c.sets && wordsB c
/-- Each number below n. -/
def allUpto (p : Int → Bool) : Nat → Bool
  | 0 => true
  | n + 1 => allUpto p n && p n
def waysB (c : Cf) : Bool := listB c.ways 8 0 (c.domains - 1) && allUpto (fun d => smallB (c.ways.count d)) c.domains.toNat
def slotsB (c : Cf) : Bool := withinB c.slot 1 4 && listB c.slots 8 0 (c.domains - 1) && allUpto (fun d => !((c.slots.count d : Int) == 0)) c.domains.toNat
def turnsB (c : Cf) : Bool := ((c.turns.length : Int) == c.cores) && c.turns.all (fun l => listB l 4 (-1) (c.domains - 1))
def worstZ (c : Cf) : Int := 3 * c.cores * c.slots.length * c.slot
def quantumB (c : Cf) : Bool := withinB c.flush c.near 16 && withinB c.quantum (worstZ c + c.flush + 1) 2000
def chk (c : Cf) : Int := if shapeB c = false then 1 else if waysB c = false then 2 else if slotsB c = false then 3 else if turnsB c = false then 4 else if quantumB c = false then 5 else 0

theorem count_le (x : Int) (xs : List Int) (k : Nat) : (xs.take k).count x ≤ k := by
  have := List.count_le_length (a := x) (l := xs.take k)
  have h2 := List.length_take_le k xs
  omega

theorem count_snoc (x : Int) (xs : List Int) (k : Nat) (h : k < xs.length) : (xs.take (k + 1)).count x = (xs.take k).count x + if (xs.getD k 0 == x) = true then 1 else 0 := by
  rw [List.take_succ_eq_append_getElem h, List.count_append]
  simp [List.getD, h, List.count_cons]

theorem all_snoc {α : Type} (p : α → Bool) (xs : List α) (d : α) (k : Nat) (h : k < xs.length) : (xs.take (k + 1)).all p = ((xs.take k).all p && p (xs.getD k d)) := by
  rw [List.take_succ_eq_append_getElem h, List.all_append]
  simp [List.getD, h]

theorem all_false_of {α : Type} (p : α → Bool) (xs : List α) (d : α) (k : Nat) (h : k < xs.length) (hp : p (xs.getD k d) = false) : xs.all p = false := by
  rw [List.all_eq_false]
  refine ⟨xs[k], List.getElem_mem h, ?_⟩
  simp [List.getD, h] at hp
  simp [hp]

theorem allUpto_false (p : Int → Bool) (k : Nat) (hp : p k = false) : ∀ n, k < n → allUpto p n = false
  | n + 1, h => by
    by_cases e : k = n
    · subst e; simp [allUpto, hp]
    · simp [allUpto, allUpto_false p k hp n (by omega)]

theorem within_iff (n lo hi : Int) : withinB n lo hi = true ↔ lo ≤ n ∧ n ≤ hi := by simp [withinB]
theorem within_not (n lo hi : Int) : withinB n lo hi = false ↔ n < lo ∨ hi < n := by
  simp [withinB]
  by_cases h : lo ≤ n <;> by_cases h2 : n ≤ hi <;> simp [h] <;> omega
theorem small_iff (n : Int) : smallB n = true ↔ n = 1 ∨ n = 2 ∨ n = 4 := by simp [smallB, or_assoc]
theorem small_not (n : Int) : smallB n = false ↔ n ≠ 1 ∧ n ≠ 2 ∧ n ≠ 4 := by simp [smallB, and_assoc]

theorem shape_bounds {c : Cf} (h : shapeB c = true) : 1 ≤ c.cores ∧ c.cores ≤ 3 ∧ 1 ≤ c.domains ∧ c.domains ≤ 4 ∧ (c.near = 1 ∨ c.near = 2 ∨ c.near = 4) ∧ (c.sets = 1 ∨ c.sets = 2 ∨ c.sets = 4) ∧ (c.line = 1 ∨ c.line = 2 ∨ c.line = 4) ∧ c.line ≤ c.priv ∧ c.priv ≤ 64 ∧ 0 ≤ c.shared ∧ c.shared ≤ 32 := by
  simp only [shapeB, wordsB, Bool.and_eq_true, within_iff, small_iff] at h
  omega

theorem slots_bounds {c : Cf} (h : slotsB c = true) : 1 ≤ c.slot ∧ c.slot ≤ 4 ∧ 1 ≤ c.slots.length ∧ c.slots.length ≤ 8 := by
  simp only [slotsB, listB, Bool.and_eq_true, within_iff, decide_eq_true_eq] at h
  omega


theorem worst_bd {c : Cf} (h1 : 1 ≤ c.cores) (h2 : c.cores ≤ 3) (h3 : 1 ≤ c.slot) (h4 : c.slot ≤ 4) (h5 : c.slots.length ≤ 8) : 0 ≤ worstZ c ∧ worstZ c ≤ 288 := by
  unfold worstZ
  have b1 : (3 * c.cores) * (c.slots.length : Int) ≤ 9 * 8 := Int.mul_le_mul (by omega) (by omega) (by omega) (by omega)
  have b2 : 0 ≤ (3 * c.cores) * (c.slots.length : Int) := Int.mul_nonneg (by omega) (by omega)
  have b4 : (3 * c.cores) * (c.slots.length : Int) * c.slot ≤ (9 * 8) * 4 := Int.mul_le_mul b1 h4 (by omega) (by omega)
  have b5 : 0 ≤ (3 * c.cores) * (c.slots.length : Int) * c.slot := Int.mul_nonneg b2 (by omega)
  omega
end Go.Proofs.Ytcmcfafhllpojaa
