/-
  The plain mathematics of one domain's play: what has happened is a list, the newest first.
-/
import Derived.Test.YtcmcfafhllpojaaGreatMathT
import Derived.Test.YtcmcfafhllpojaaGreatRightC
namespace Go.Proofs.YtcmcfafhllpojaaGreat

structure Ent where
  t : Int
  what : Int
  core : Int
  line : Int
  way : Int
  st : Bool
  lo : Bool
  addr : Int
  val : Int

structure Ev where
  core : Int
  index : Int
  value : Int
  fault : Int
  issue : Int
  done : Int

/-- An operation: its kind, address, value. -/
abbrev OpT := Int × Int × Int

/-- The first flush cycle of the turn of s. -/
def flushAt (c : Cf) (s : Int) : Int := s / c.quantum * c.quantum + c.quantum - c.flush
def flushedB (c : Cf) (s t : Int) : Bool :=
  if t < flushAt c s then false else if s < flushAt c s then true else decide (flushAt c s + c.quantum ≤ t)

def stateF (c : Cf) (core x t : Int) : Bool → List Ent → Int
  | _, [] => 0
  | lw, e :: r =>
    if flushedB c e.t t = true then 0
    else if (e.what == 2 && e.line == x) = true then 0
    else if (e.what == 3 && e.core == core && e.line != x && (e.line % c.near == x % c.near)) = true then 0
    else if (e.what == 3 && e.core != core && e.line == x && e.st) = true then 0
    else if (e.what == 3 && e.core != core && e.line == x) = true then stateF c core x t true r
    else if (e.what == 4 && e.core == core && e.line == x && !lw) = true then 3
    else if (e.what == 3 && e.core == core && e.line == x && e.lo && !lw) = true then 2
    else if ((e.what == 3 || e.what == 4) && e.core == core && e.line == x) = true then 1
    else stateF c core x t lw r

def whereF (x : Int) : List Ent → Int
  | [] => -1
  | e :: r => if (e.line == x && e.what == 1) = true then e.way else if (e.line == x && e.what == 2) = true then -1 else whereF x r

def liesF (c : Cf) (set way : Int) : List Ent → Int
  | [] => -1
  | e :: r => if ((e.line % c.sets == set) && e.way == way && e.what == 1) = true then e.line else if ((e.line % c.sets == set) && e.way == way && e.what == 2) = true then -1 else liesF c set way r

def markedF (x : Int) : List Ent → Bool
  | [] => false
  | e :: r => if (e.line == x && e.what == 4) = true then true else if (e.line == x && e.what == 1) = true then false else markedF x r

def wordF (a init : Int) : List Ent → Int
  | [] => init
  | e :: r => if (e.what == 4 && e.addr == a) = true then e.val else wordF a init r

def memoryF (x a init : Int) : List Ent → Int
  | [] => init
  | e :: r => if (e.what == 2 && e.line == x) = true then wordF a init r else memoryF x a init r

/-- The ways that were touched in the set, the first touch first. -/
def touchedF (c : Cf) (set : Int) (log : List Ent) : List Int := ((log.reverse.filter fun e => e.what == 3 && (e.line % c.sets == set)).map Ent.way)

/-- The first of the n ways from j on in which nothing lies; n: none. -/
def emptyF (c : Cf) (set : Int) (log : List Ent) : Nat → Int → Int
  | 0, j => j
  | n + 1, j => if liesF c set j log < 0 then j else emptyF c set log n (j + 1)

def chosenF (c : Cf) (n : Nat) (set : Int) (log : List Ent) : Int :=
  let j := emptyF c set log n 0
  if j < n then j else victimZ n (touchedF c set log)

theorem emptyF_hit {c : Cf} {set : Int} {log : List Ent} {j : Int} (h : liesF c set j log < 0) : ∀ n, 0 < n → emptyF c set log n j = j
  | n + 1, _ => by simp [emptyF, h]
theorem emptyF_miss {c : Cf} {set : Int} {log : List Ent} {j : Int} (h : ¬ liesF c set j log < 0) (n : Nat) : emptyF c set log (n + 1) j = emptyF c set log n (j + 1) := by simp [emptyF, h]

/-- What a machine was given. -/
structure MDat where
  c : Cf
  pr : Nat → List OpT
  ow : Nat → List Int
  cm : List Int

def firstF0 (M : MDat) (d : Nat) (a : Int) : Int := if a < M.c.priv then (M.ow d).getD a.toNat 0 else M.cm.getD (a - M.c.priv).toNat 0

def faultF (c : Cf) (o : OpT) : Int := if o.2.1 < 0 ∨ c.priv + c.shared ≤ o.2.1 then 1 else if o.1 = 1 ∧ c.priv ≤ o.2.1 then 2 else 0

/-- One domain's play. By core: the next operation, the cycle from which it may begin, since when it is under way, and how. -/
structure So where
  log : List Ent
  evs : List Ev
  next : List Int
  free : List Int
  began : List Int
  how : List Int
  queue : List Int

def So.told (S : So) (e : Ent) : So := { S with log := e :: S.log }
def So.done (S : So) (k : Nat) (t v f : Int) : So :=
  { S with evs := S.evs ++ [⟨k, S.next.getD k 0, v, f, S.began.getD k 0, t⟩], next := S.next.set k (S.next.getD k 0 + 1), free := S.free.set k (t + 1), how := S.how.set k 0 }

/-- No other core has a copy of x: of the n cores from j on. -/
def loneF (c : Cf) (core x t : Int) (log : List Ent) : Nat → Int → Bool
  | 0, _ => true
  | n + 1, j => if j ≠ core ∧ stateF c j x t false log ≠ 0 then false else loneF c core x t log n (j + 1)

def progF (M : MDat) (d k : Nat) : List OpT := M.pr (d * M.c.cores.toNat + k)
def opAt (M : MDat) (d k : Nat) (S : So) : OpT := (progF M d k).getD (S.next.getD k 0).toNat (0, 0, 0)

/-- A service in the cycle t. -/
def So.serve (M : MDat) (d : Nat) (S : So) (t : Int) : So :=
  match S.queue with
  | [] => S
  | core :: q =>
    let k := core.toNat
    let o := opAt M d k S
    let x := o.2.1 / M.c.line
    let way := whereF x S.log
    if 0 ≤ way then
      let S1 := { S with queue := q }
      if o.1 = 1 then ((S1.told ⟨t, 3, core, x, way, true, false, 0, 0⟩).told ⟨t, 4, core, x, way, false, false, o.2.1, o.2.2⟩).done k t o.2.2 0
      else
        let S2 := S1.told ⟨t, 3, core, x, way, false, loneF M.c core x t S.log M.c.cores.toNat 0 && decide (o.2.1 < M.c.priv), 0, 0⟩
        S2.done k t (wordF o.2.1 (firstF0 M d o.2.1) S2.log) 0
    else
      let set := x % M.c.sets
      let way := chosenF M.c (M.c.ways.count (d : Int)) set S.log
      let y := liesF M.c set way S.log
      if 0 ≤ y then
        let m := markedF y S.log
        let S1 := S.told ⟨t, 2, 0, y, way, false, false, 0, 0⟩
        if m = true then S1 else S1.told ⟨t, 1, 0, x, way, false, false, 0, 0⟩
      else S.told ⟨t, 1, 0, x, way, false, false, 0, 0⟩

def So.service (M : MDat) (d : Nat) (S : So) (t : Int) : So := if servesB M.c d t = true then So.serve M d S t else S

/-- An operation begins at the core k. -/
def So.begin (M : MDat) (d k : Nat) (S : So) (t : Int) : So :=
  let S1 := { S with began := S.began.set k t }
  let o := opAt M d k S
  if faultF M.c o ≠ 0 then { S1 with how := S1.how.set k 2 }
  else
    let x := o.2.1 / M.c.line
    let s := stateF M.c k x t false S.log
    if s = 0 ∨ (o.1 = 1 ∧ s = 1) then { S1 with how := S1.how.set k 1, queue := S1.queue ++ [(k : Int)] }
    else if o.1 = 1 then (S1.told ⟨t, 4, k, x, 0, false, false, o.2.1, o.2.2⟩).done k t o.2.2 0
    else S1.done k t (wordF o.2.1 (firstF0 M d o.2.1) S.log) 0

def So.works (M : MDat) (d k : Nat) (S : So) (t : Int) : So :=
  if S.how.getD k 0 = 2 ∧ t = S.began.getD k 0 + 2 then S.done k t 0 (faultF M.c (opAt M d k S))
  else if S.how.getD k 0 ≠ 0 ∨ t < S.free.getD k 0 ∨ ((progF M d k).length : Int) ≤ S.next.getD k 0 ∨ openB M.c k d t = false then S
  else So.begin M d k S t

/-- The cores j, j + 1, .., n of them. -/
def So.worksAll (M : MDat) (d : Nat) (t : Int) : Nat → Nat → So → So
  | 0, _, S => S
  | n + 1, j, S => So.worksAll M d t n (j + 1) (So.works M d j S t)

/-- What a cycle does. -/
def So.cycle (M : MDat) (d : Nat) (S : So) (t : Int) : So := So.worksAll M d t M.c.cores.toNat 0 (So.service M d S t)

def So.start (n : Nat) : So := ⟨[], [], List.replicate n 0, List.replicate n 0, List.replicate n 0, List.replicate n 0, []⟩

/-- The first T cycles. -/
def So.upto (M : MDat) (d : Nat) : Nat → So
  | 0 => So.start M.c.cores.toNat
  | t + 1 => So.cycle M d (So.upto M d t) t

end Go.Proofs.YtcmcfafhllpojaaGreat
