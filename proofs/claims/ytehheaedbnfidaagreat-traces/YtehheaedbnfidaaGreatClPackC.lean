/-
  Mach, LinkT
-/
import Derived.Test.YtehheaedbnfidaaGreatClPackB
namespace Go.Proofs.YtehheaedbnfidaaGreat

/-- A near copy. -/
structure Cp where
  dom : Int
  line : Int
  st : Int
/-- What lies in a way. -/
structure Bk where
  line : Int
  mkd : Bool
  wd : Nat → Int
/-- What is under way at a core. -/
structure Wk where
  busy : Bool
  dom : Int
  issue : Int

/-- A machine: its time, words, near copies, programs, far cache, what waits, traces, cores. -/
structure Mh where
  now : Int
  own : Nat → Nat → Int
  sh : Nat → Int
  nr : Nat → Nat → Cp
  ops : Nat → Nat → List OpT
  dn : Nat → Nat → Nat
  blk : Nat → Nat → Nat → Bk
  tch : Nat → Nat → List Int
  wt : Nat → List Int
  tr : Nat → List Ev
  wk : Nat → Wk

def cpE : Cp := ⟨-1, -1, 0⟩
def bkE : Bk := ⟨-1, false, fun _ => 0⟩

/-- One place is laid anew. -/
def up1 {α : Type} (f : Nat → α) (i : Nat) (v : α) : Nat → α := fun j => if j = i then v else f j
def up2 {α : Type} (f : Nat → Nat → α) (i j : Nat) (v : α) : Nat → Nat → α := fun a b => if a = i ∧ b = j then v else f a b
def up3 {α : Type} (f : Nat → Nat → Nat → α) (i j k : Nat) (v : α) : Nat → Nat → Nat → α := fun a b c => if a = i ∧ b = j ∧ c = k then v else f a b c

/-- The state of the copy of d's line x in a row of places. -/
def stateN (nn : Nat) (nr : Nat → Nat → Cp) (k : Nat) (d : Int) (x : Nat) : Int :=
  if (nr k (x % nn)).dom = d ∧ (nr k (x % nn)).line = x then (nr k (x % nn)).st else 0
def putN (nn : Nat) (nr : Nat → Nat → Cp) (k : Nat) (d : Int) (x : Nat) (s : Int) : Nat → Nat → Cp := up2 nr k (x % nn) ⟨d, x, s⟩
def dropN (nn : Nat) (nr : Nat → Nat → Cp) (k : Nat) (d : Int) (x : Nat) : Nat → Nat → Cp :=
  if stateN nn nr k d x = 0 then nr else up2 nr k (x % nn) cpE
/-- At the cores of which p holds the copies of d's line x are gone. -/
def dropAllN (p : Nat → Bool) (nn : Nat) (nr : Nat → Nat → Cp) (d : Int) (x : Nat) : Nat → Nat → Cp :=
  fun k j => if p k = true ∧ j = x % nn ∧ stateN nn nr k d x ≠ 0 then cpE else nr k j
/-- At the cores of which p holds the copies of d's line x are Common. -/
def shareAllN (p : Nat → Bool) (nn : Nat) (nr : Nat → Nat → Cp) (d : Int) (x : Nat) : Nat → Nat → Cp :=
  fun k j => if p k = true ∧ j = x % nn ∧ stateN nn nr k d x ≠ 0 then ⟨d, x, 1⟩ else nr k j
/-- Has one of the cores 0 .. n - 1 but core a copy? -/
def foundN (nn : Nat) (nr : Nat → Nat → Cp) (core : Nat) (d : Int) (x : Nat) : Nat → Bool
  | 0 => false
  | n + 1 => foundN nn nr core d x n || (decide (n ≠ core) && decide (stateN nn nr n d x ≠ 0))

/-- The first of the n ways from j on of which p holds; -1: none. -/
def firstW (p : Nat → Bool) : Nat → Nat → Int
  | 0, _ => -1
  | n + 1, j => if p j = true then j else firstW p n (j + 1)
def wayF (b : Nat → Bk) (n : Nat) (x : Int) : Int := firstW (fun j => decide ((b j).line = x)) n 0
def roomF (b : Nat → Bk) (n : Nat) (tc : List Int) : Int := if wayF b n (-1) = -1 then victimZ n tc else wayF b n (-1)
def without (way : Int) (tc : List Int) : List Int := tc.filter (fun e => decide (e ≠ way))
def touchF (tc : List Int) (way : Int) : List Int := without way tc ++ [way]

/-- What stands at an address. -/
def wordM (pv sn : Nat) (own : Nat → Int) (sh : Nat → Int) (a : Nat) : Int := if a < pv then own a else if a - pv < sn then sh (a - pv) else 0
def readM (pv sn ln : Nat) (own : Nat → Int) (sh : Nat → Int) (x : Nat) : Nat → Int := fun i => if i < ln ∧ i < 4 then wordM pv sn own sh (x * ln + i) else 0
def writeM (pv ln : Nat) (own : Nat → Int) (x : Nat) (wd : Nat → Int) : Nat → Int := fun a => if x * ln ≤ a ∧ a < x * ln + ln ∧ a < x * ln + 4 ∧ a < pv then wd (a - x * ln) else own a

/-- The numbers of a configuration that a machine asks for, as they are in it. -/
structure Cn where
  c : Cf
  nc : Nat
  nd : Nat
  nn : Nat
  ns : Nat
  ln : Nat
  pv : Nat
  sn : Nat
  wn : Nat → Nat

def cnOf (c : Cf) : Cn := ⟨c, c.cores.toNat, c.domains.toNat, c.near.toNat, c.sets.toNat, c.line.toNat, c.priv.toNat, c.shared.toNat, fun d => c.ways.count (d : Int)⟩

/-- The operation that comes next, or is under way. -/
def Mh.next (m : Mh) (d k : Nat) : Option OpT := (m.ops d k)[m.dn d k]?

def Mh.finish (m : Mh) (k : Nat) (v f : Int) : Mh :=
  let d := (m.wk k).dom.toNat
  { m with tr := up1 m.tr d (m.tr d ++ [⟨k, m.dn d k, v, f, (m.wk k).issue, m.now⟩]), dn := up2 m.dn d k (m.dn d k + 1), wk := up1 m.wk k ⟨false, (m.wk k).dom, (m.wk k).issue⟩ }

/-- The word of an operation whose line lies in the far cache. -/
def Mh.valueOf (N : Cn) (m : Mh) (d : Nat) (o : OpT) : Int :=
  let x := (o.2.1 / N.ln).toNat
  let way := wayF (m.blk d (x % N.ns)) (N.wn d) x
  if o.1 = 0 then (if way < 0 then 0 else (m.blk d (x % N.ns) way.toNat).wd (o.2.1.toNat - x * N.ln)) else o.2.2
def Mh.perform (N : Cn) (m : Mh) (d : Nat) (o : OpT) : Mh :=
  let x := (o.2.1 / N.ln).toNat
  let way := wayF (m.blk d (x % N.ns)) (N.wn d) x
  if way < 0 ∨ o.1 = 0 then m
  else
    let b := m.blk d (x % N.ns) way.toNat
    { m with blk := up3 m.blk d (x % N.ns) way.toNat ⟨b.line, true, up1 b.wd (o.2.1.toNat - x * N.ln) o.2.2⟩ }

def Mh.begin (N : Cn) (m : Mh) (d k : Nat) (o : OpT) : Mh :=
  let m1 := { m with wk := up1 m.wk k ⟨true, d, m.now⟩ }
  if faultF N.c o ≠ 0 then m1
  else
    let x := (o.2.1 / N.ln).toNat
    let s := stateN N.nn m.nr k d x
    if (o.1 = 0 ∧ s = 0) ∨ (o.1 ≠ 0 ∧ s ≠ 2 ∧ s ≠ 3) then { m1 with wt := up1 m.wt d (m.wt d ++ [(k : Int)]) }
    else
      let m2 := if o.1 = 1 then { m1 with nr := putN N.nn m.nr k d x 3 } else m1
      (m2.perform N d o).finish k (m2.valueOf N d o) 0

def Mh.endFault (N : Cn) (m : Mh) (k : Nat) : Mh :=
  match m.next (m.wk k).dom.toNat k with
  | none => m
  | some o => if faultF N.c o ≠ 0 ∧ (m.wk k).issue + 2 ≤ m.now then m.finish k 0 (faultF N.c o) else m

def Mh.step (N : Cn) (m : Mh) (served : Int) (k : Nat) : Mh :=
  if (m.wk k).busy = true then m.endFault N k
  else if (k : Int) = served then m
  else if openB N.c k (turnZ N.c k m.now) m.now = false then m
  else match m.next (turnZ N.c k m.now).toNat k with
    | none => m
    | some o => m.begin N (turnZ N.c k m.now).toNat k o

def Mh.hand (N : Cn) (m : Mh) (d k : Nat) (o : OpT) : Mh :=
  let x := (o.2.1 / N.ln).toNat
  if o.1 = 1 then { m with nr := putN N.nn (dropAllN (fun j => decide (j < N.nc ∧ j ≠ k)) N.nn m.nr d x) k d x 3 }
  else { m with nr := putN N.nn (shareAllN (fun j => decide (j < N.nc ∧ j ≠ k)) N.nn m.nr d x) k d x (if foundN N.nn m.nr k d x N.nc = true ∨ N.c.priv ≤ o.2.1 then 1 else 2) }

def Mh.fetch (N : Cn) (m : Mh) (d x : Nat) : Mh :=
  let s := x % N.ns
  let r := (roomF (m.blk d s) (N.wn d) (m.tch d s)).toNat
  let old := m.blk d s r
  let m1 := if old.line = -1 then m else { m with nr := dropAllN (fun j => decide (j < N.nc)) N.nn m.nr d old.line.toNat }
  if old.mkd = true then { m1 with own := up1 m.own d (writeM N.pv N.ln (m.own d) old.line.toNat old.wd), blk := up3 m.blk d s r bkE }
  else { m1 with blk := up3 m.blk d s r ⟨x, false, readM N.pv N.sn N.ln (m.own d) m.sh x⟩ }

/-- A service, and at which core an operation was done by it. -/
def Mh.serve (N : Cn) (m : Mh) (d : Nat) : Mh × Int :=
  match m.wt d with
  | [] => (m, -1)
  | core :: q =>
    let k := core.toNat
    match m.next d k with
    | none => (m, -1)
    | some o =>
      let x := (o.2.1 / N.ln).toNat
      let s := x % N.ns
      let way := wayF (m.blk d s) (N.wn d) x
      if way = -1 then (m.fetch N d x, -1)
      else
        let m1 := { m with wt := up1 m.wt d q, tch := up2 m.tch d s (touchF (m.tch d s) way) }
        let m2 := m1.hand N d k o
        ((m2.perform N d o).finish k (m2.valueOf N d o) 0, core)

def servedF (c : Cf) (t : Int) : Int := if t % c.slot = c.slot - 1 then c.slots.getD (t / c.slot % c.slots.length).toNat 0 else -1

def Mh.service (N : Cn) (m : Mh) : Mh × Int := if servedF N.c m.now < 0 then (m, -1) else m.serve N (servedF N.c m.now).toNat

def flushesB (c : Cf) (t : Int) : Bool := decide (t % c.quantum = c.quantum - c.flush)

def Mh.steps (N : Cn) (served : Int) : Nat → Mh → Mh
  | 0, m => m
  | n + 1, m => (Mh.steps N served n m).step N served n

def Mh.cycle (N : Cn) (m : Mh) : Mh :=
  let m0 := if flushesB N.c m.now = true then { m with nr := fun _ _ => cpE } else m
  Mh.steps N (m0.service N).2 N.nc (m0.service N).1

def Mh.runs (N : Cn) : Nat → Mh → Mh
  | 0, m => m
  | n + 1, m => let m1 := (Mh.runs N n m).cycle N; { m1 with now := m1.now + 1 }

end Go.Proofs.YtehheaedbnfidaaGreat

namespace Go.Proofs.YtehheaedbnfidaaGreat

/-- The victim by the touches, each but once, the last ones, is that by all of them. -/
theorem latest_push (l : List Int) (w lo hi : Int) : latestZ (l ++ [w]) lo hi = if lo ≤ w ∧ w < hi then w else latestZ l lo hi := by
  unfold latestZ
  rw [List.reverse_append]
  show ((w :: l.reverse).find? _).getD (-1) = _
  rw [List.find?_cons]
  by_cases h : lo ≤ w ∧ w < hi
  · rw [if_pos h]; simp [h]
  · rw [if_neg h]
    have : (decide (lo ≤ w) && decide (w < hi)) = false := by simp; omega
    rw [this]
theorem find_without (l : List Int) (w lo hi : Int) (hw : ¬ (lo ≤ w ∧ w < hi)) : latestZ (without w l) lo hi = latestZ l lo hi := by
  unfold latestZ without
  congr 1
  rw [← List.filter_reverse]
  induction l.reverse with
  | nil => rfl
  | cons x xs ih =>
    by_cases e : x = w
    · subst e
      have : (decide (lo ≤ x) && decide (x < hi)) = false := by simp; omega
      rw [List.find?_cons, this]
      simpa using ih
    · rw [List.filter_cons]
      simp only [e, ne_eq, not_false_eq_true, decide_true, if_true, List.find?_cons]
      split
      · rfl
      · exact ih
/-- What the touches tell is the same. -/
def SameTouch (a b : List Int) : Prop := ∀ lo hi, latestZ a lo hi = latestZ b lo hi
theorem SameTouch.touch {a b : List Int} (h : SameTouch a b) (w : Int) : SameTouch (touchF a w) (b ++ [w]) := fun lo hi => by
  unfold touchF
  rw [latest_push, latest_push]
  by_cases c : lo ≤ w ∧ w < hi
  · rw [if_pos c, if_pos c]
  · rw [if_neg c, if_neg c, find_without _ _ _ _ c, h]
theorem SameTouch.victim {a b : List Int} (h : SameTouch a b) (n : Int) : victimZ n a = victimZ n b := by
  unfold victimZ lowHit
  simp only [h _ _]
end Go.Proofs.YtehheaedbnfidaaGreat
