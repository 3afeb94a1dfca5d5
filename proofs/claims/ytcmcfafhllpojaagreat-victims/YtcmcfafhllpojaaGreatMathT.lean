/-
  The plain mathematics of the tables and of the victim.
-/
import Derived.Test.YtcmcfafhllpojaaGreatMathB
namespace Go.Proofs.YtcmcfafhllpojaaGreat

def rowOf (c : Cf) (i : Nat) : List Int := c.turns.getD i []
def turnZ (c : Cf) (i : Nat) (t : Int) : Int := (rowOf c i).getD (t / c.quantum % ((rowOf c i).length : Int)).toNat 0
def openB (c : Cf) (i : Nat) (d t : Int) : Bool := (turnZ c i t == d) && decide (0 ≤ d) && decide (t % c.quantum < c.quantum - c.flush - worstZ c)
def servesB (c : Cf) (d t : Int) : Bool := (t % c.slot == c.slot - 1) && (c.slots.getD (t / c.slot % (c.slots.length : Int)).toNat 0 == d)
/-- The first from u on, of n, that p holds of; behind them, if there is none. -/
def firstF (p : Int → Bool) : Nat → Int → Int
  | 0, u => u
  | n + 1, u => if p u = true then u else firstF p n (u + 1)
def waitZ (c : Cf) (d t : Int) : Int := firstF (servesB c d) ((c.slots.length : Int) * c.slot).toNat t

def turnOk (c : Cf) (core t : Int) : Bool := decide (0 ≤ core ∧ core < c.cores ∧ 0 ≤ t ∧ t ≤ 10000)
def waitOk (c : Cf) (d t : Int) : Bool := decide (0 ≤ d ∧ d < c.domains ∧ 0 ≤ t ∧ t ≤ 10000)
def turnE (c : Cf) (core t : Int) : Int := if chk c = 0 then (if turnOk c core t = true then 0 else 6) else chk c
def turnD (c : Cf) (core t : Int) : Int := if chk c = 0 ∧ turnOk c core t = true then turnZ c core.toNat t else 0
def turnO (c : Cf) (core t : Int) : Bool := if chk c = 0 ∧ turnOk c core t = true then openB c core.toNat (turnZ c core.toNat t) t else false
def waitE (c : Cf) (d t : Int) : Int := if chk c = 0 then (if waitOk c d t = true then 0 else 6) else chk c
def waitN (c : Cf) (d t : Int) : Int := if chk c = 0 ∧ waitOk c d t = true then waitZ c d t else 0

theorem turn_bad {c : Cf} {core t : Int} (h : chk c ≠ 0) : turnE c core t = chk c ∧ turnD c core t = 0 ∧ turnO c core t = false := by simp [turnE, turnD, turnO, h]
theorem turn_no {c : Cf} {core t : Int} (h : chk c = 0) (h2 : turnOk c core t = false) : turnE c core t = 6 ∧ turnD c core t = 0 ∧ turnO c core t = false := by simp [turnE, turnD, turnO, h, h2]
theorem turn_yes {c : Cf} {core t : Int} (h : chk c = 0) (h2 : turnOk c core t = true) : turnE c core t = 0 ∧ turnD c core t = turnZ c core.toNat t ∧ turnO c core t = openB c core.toNat (turnZ c core.toNat t) t := by simp [turnE, turnD, turnO, h, h2]
theorem wait_bad {c : Cf} {d t : Int} (h : chk c ≠ 0) : waitE c d t = chk c ∧ waitN c d t = 0 := by simp [waitE, waitN, h]
theorem wait_no {c : Cf} {d t : Int} (h : chk c = 0) (h2 : waitOk c d t = false) : waitE c d t = 6 ∧ waitN c d t = 0 := by simp [waitE, waitN, h, h2]
theorem wait_yes {c : Cf} {d t : Int} (h : chk c = 0) (h2 : waitOk c d t = true) : waitE c d t = 0 ∧ waitN c d t = waitZ c d t := by simp [waitE, waitN, h, h2]

/-- What stands last in l among the numbers from lo to hi - 1; -1: none. -/
def latestZ (l : List Int) (lo hi : Int) : Int := ((l.reverse.find? fun x => decide (lo ≤ x) && decide (x < hi)).getD (-1))
/-- The one of the ways lo to lo + 2 m - 1 that was touched last lies in the lower half. -/
def lowHit (l : List Int) (lo m : Int) : Bool := decide (0 ≤ latestZ l lo (lo + (m + m))) && decide (latestZ l lo (lo + (m + m)) < lo + m)
def victimZ (n : Int) (l : List Int) : Int :=
  if n = 2 then (if lowHit l 0 1 = true then 1 else 0)
  else if n = 4 then (if lowHit l 0 2 = true then (if lowHit l 2 1 = true then 3 else 2) else (if lowHit l 0 1 = true then 1 else 0))
  else 0
def victimOk (n : Int) (l : List Int) : Bool := smallB n && l.all (fun x => withinB x 0 (n - 1))
def victimE (n : Int) (l : List Int) : Int := if victimOk n l = true then 0 else 6
def victimN (n : Int) (l : List Int) : Int := if victimOk n l = true then victimZ n l else 0

/-- Below k nothing is looked at yet: what was found stands behind. -/
theorem latest_hit {l : List Int} {lo hi : Int} {k : Nat} (hk : k < l.length) (hx : lo ≤ l.getD k 0 ∧ l.getD k 0 < hi) (hn : ∀ x ∈ l.drop (k + 1), ¬ (lo ≤ x ∧ x < hi)) : latestZ l lo hi = l.getD k 0 := by
  have e : l = l.take k ++ (l[k] :: l.drop (k + 1)) := by
    rw [← List.drop_eq_getElem_cons hk, List.take_append_drop]
  have ek : l.getD k 0 = l[k] := by simp [List.getD, hk]
  rw [ek] at hx
  unfold latestZ
  rw [ek]
  conv => lhs; rw [e]
  rw [List.reverse_append, List.reverse_cons, List.append_assoc, List.find?_append]
  have h1 : (l.drop (k + 1)).reverse.find? (fun x => decide (lo ≤ x) && decide (x < hi)) = none := by
    rw [List.find?_eq_none]
    intro x hx'
    have := hn x (List.mem_reverse.1 hx')
    simpa using this
  rw [h1]
  simp [hx]

theorem latest_none {l : List Int} {lo hi : Int} (hn : ∀ x ∈ l, ¬ (lo ≤ x ∧ x < hi)) : latestZ l lo hi = -1 := by
  unfold latestZ
  have h1 : l.reverse.find? (fun x => decide (lo ≤ x) && decide (x < hi)) = none := by
    rw [List.find?_eq_none]
    intro x hx'
    have := hn x (List.mem_reverse.1 hx')
    simpa using this
  rw [h1]; rfl

theorem latest_bd (l : List Int) (lo hi : Int) (h0 : 0 ≤ lo) (h1 : lo ≤ hi) : -1 ≤ latestZ l lo hi ∧ latestZ l lo hi ≤ hi := by
  unfold latestZ
  cases h : l.reverse.find? (fun x => decide (lo ≤ x) && decide (x < hi)) with
  | none => simp; omega
  | some x =>
    have := List.find?_some h
    simp at this
    simp
    omega

theorem firstF_hit {p : Int → Bool} {u : Int} (h : p u = true) : ∀ n, 0 < n → firstF p n u = u
  | n + 1, _ => by simp [firstF, h]
theorem firstF_miss {p : Int → Bool} {u : Int} (h : p u = false) (n : Nat) : firstF p (n + 1) u = firstF p n (u + 1) := by simp [firstF, h]

end Go.Proofs.YtcmcfafhllpojaaGreat
