/-
  Solo, Solo2, Solo3, Solo4, Solo5, Solo6, Solo7, Solo8, Solo9, SoloA, SoloB, SoloC, SoloD, SoloE, SoloF, SoloG, SoloH, SoloI
-/
import Derived.Test.YtehheaedbnfidaaGreatClPackA
namespace Go.Proofs.YtehheaedbnfidaaGreat

structure Ent where
  t : Int
  what : Int
  core : Int
  line : Int
  way : Int
  st : Bool
  lo : Bool
  addr : Int
  val : Int

structure Ev where
  core : Int
  index : Int
  value : Int
  fault : Int
  issue : Int
  done : Int

/-- An operation: its kind, address, value. -/
abbrev OpT := Int × Int × Int

/-- The first flush cycle of the turn of s. -/
def flushAt (c : Cf) (s : Int) : Int := s / c.quantum * c.quantum + c.quantum - c.flush
def flushedB (c : Cf) (s t : Int) : Bool :=
  if t < flushAt c s then false else if s < flushAt c s then true else decide (flushAt c s + c.quantum ≤ t)

def stateF (c : Cf) (core x t : Int) : Bool → List Ent → Int
  | _, [] => 0
  | lw, e :: r =>
    if flushedB c e.t t = true then 0
    else if (e.what == 2 && e.line == x) = true then 0
    else if (e.what == 3 && e.core == core && e.line != x && (e.line % c.near == x % c.near)) = true then 0
    else if (e.what == 3 && e.core != core && e.line == x && e.st) = true then 0
    else if (e.what == 3 && e.core != core && e.line == x) = true then stateF c core x t true r
    else if (e.what == 4 && e.core == core && e.line == x && !lw) = true then 3
    else if (e.what == 3 && e.core == core && e.line == x && e.lo && !lw) = true then 2
    else if ((e.what == 3 || e.what == 4) && e.core == core && e.line == x) = true then 1
    else stateF c core x t lw r

def whereF (x : Int) : List Ent → Int
  | [] => -1
  | e :: r => if (e.line == x && e.what == 1) = true then e.way else if (e.line == x && e.what == 2) = true then -1 else whereF x r

def liesF (c : Cf) (set way : Int) : List Ent → Int
  | [] => -1
  | e :: r => if ((e.line % c.sets == set) && e.way == way && e.what == 1) = true then e.line else if ((e.line % c.sets == set) && e.way == way && e.what == 2) = true then -1 else liesF c set way r

def markedF (x : Int) : List Ent → Bool
  | [] => false
  | e :: r => if (e.line == x && e.what == 4) = true then true else if (e.line == x && e.what == 1) = true then false else markedF x r

def wordF (a init : Int) : List Ent → Int
  | [] => init
  | e :: r => if (e.what == 4 && e.addr == a) = true then e.val else wordF a init r

def memoryF (x a init : Int) : List Ent → Int
  | [] => init
  | e :: r => if (e.what == 2 && e.line == x) = true then wordF a init r else memoryF x a init r

/-- The ways that were touched in the set, the first touch first. -/
def touchedF (c : Cf) (set : Int) (log : List Ent) : List Int := ((log.reverse.filter fun e => e.what == 3 && (e.line % c.sets == set)).map Ent.way)

/-- The first of the n ways from j on in which nothing lies; n: none. -/
def emptyF (c : Cf) (set : Int) (log : List Ent) : Nat → Int → Int
  | 0, j => j
  | n + 1, j => if liesF c set j log < 0 then j else emptyF c set log n (j + 1)

def chosenF (c : Cf) (n : Nat) (set : Int) (log : List Ent) : Int :=
  let j := emptyF c set log n 0
  if j < n then j else victimZ n (touchedF c set log)

theorem emptyF_hit {c : Cf} {set : Int} {log : List Ent} {j : Int} (h : liesF c set j log < 0) : ∀ n, 0 < n → emptyF c set log n j = j
  | n + 1, _ => by simp [emptyF, h]
theorem emptyF_miss {c : Cf} {set : Int} {log : List Ent} {j : Int} (h : ¬ liesF c set j log < 0) (n : Nat) : emptyF c set log (n + 1) j = emptyF c set log n (j + 1) := by simp [emptyF, h]

/-- What a machine was given. -/
structure MDat where
  c : Cf
  pr : Nat → List OpT
  ow : Nat → List Int
  cm : List Int

def firstF0 (M : MDat) (d : Nat) (a : Int) : Int := if a < M.c.priv then (M.ow d).getD a.toNat 0 else M.cm.getD (a - M.c.priv).toNat 0

def faultF (c : Cf) (o : OpT) : Int := if o.2.1 < 0 ∨ c.priv + c.shared ≤ o.2.1 then 1 else if o.1 = 1 ∧ c.priv ≤ o.2.1 then 2 else 0

/-- One domain's play. By core: the next operation, the cycle from which it may begin, since when it is under way, and how. -/
structure So where
  log : List Ent
  evs : List Ev
  next : List Int
  free : List Int
  began : List Int
  how : List Int
  queue : List Int

def So.told (S : So) (e : Ent) : So := { S with log := e :: S.log }
def So.done (S : So) (k : Nat) (t v f : Int) : So :=
  { S with evs := S.evs ++ [⟨k, S.next.getD k 0, v, f, S.began.getD k 0, t⟩], next := S.next.set k (S.next.getD k 0 + 1), free := S.free.set k (t + 1), how := S.how.set k 0 }

/-- No other core has a copy of x: of the n cores from j on. -/
def loneF (c : Cf) (core x t : Int) (log : List Ent) : Nat → Int → Bool
  | 0, _ => true
  | n + 1, j => if j ≠ core ∧ stateF c j x t false log ≠ 0 then false else loneF c core x t log n (j + 1)

def progF (M : MDat) (d k : Nat) : List OpT := M.pr (d * M.c.cores.toNat + k)
def opAt (M : MDat) (d k : Nat) (S : So) : OpT := (progF M d k).getD (S.next.getD k 0).toNat (0, 0, 0)

/-- A service in the cycle t. -/
def So.serve (M : MDat) (d : Nat) (S : So) (t : Int) : So :=
  match S.queue with
  | [] => S
  | core :: q =>
    let k := core.toNat
    let o := opAt M d k S
    let x := o.2.1 / M.c.line
    let way := whereF x S.log
    if 0 ≤ way then
      let S1 := { S with queue := q }
      if o.1 = 1 then ((S1.told ⟨t, 3, core, x, way, true, false, 0, 0⟩).told ⟨t, 4, core, x, way, false, false, o.2.1, o.2.2⟩).done k t o.2.2 0
      else
        let S2 := S1.told ⟨t, 3, core, x, way, false, loneF M.c core x t S.log M.c.cores.toNat 0 && decide (o.2.1 < M.c.priv), 0, 0⟩
        S2.done k t (wordF o.2.1 (firstF0 M d o.2.1) S2.log) 0
    else
      let set := x % M.c.sets
      let way := chosenF M.c (M.c.ways.count (d : Int)) set S.log
      let y := liesF M.c set way S.log
      if 0 ≤ y then
        let m := markedF y S.log
        let S1 := S.told ⟨t, 2, 0, y, way, false, false, 0, 0⟩
        if m = true then S1 else S1.told ⟨t, 1, 0, x, way, false, false, 0, 0⟩
      else S.told ⟨t, 1, 0, x, way, false, false, 0, 0⟩

def So.service (M : MDat) (d : Nat) (S : So) (t : Int) : So := if servesB M.c d t = true then So.serve M d S t else S

/-- An operation begins at the core k. -/
def So.begin (M : MDat) (d k : Nat) (S : So) (t : Int) : So :=
  let S1 := { S with began := S.began.set k t }
  let o := opAt M d k S
  if faultF M.c o ≠ 0 then { S1 with how := S1.how.set k 2 }
  else
    let x := o.2.1 / M.c.line
    let s := stateF M.c k x t false S.log
    if s = 0 ∨ (o.1 = 1 ∧ s = 1) then { S1 with how := S1.how.set k 1, queue := S1.queue ++ [(k : Int)] }
    else if o.1 = 1 then (S1.told ⟨t, 4, k, x, 0, false, false, o.2.1, o.2.2⟩).done k t o.2.2 0
    else S1.done k t (wordF o.2.1 (firstF0 M d o.2.1) S.log) 0

def So.works (M : MDat) (d k : Nat) (S : So) (t : Int) : So :=
  if S.how.getD k 0 = 2 ∧ t = S.began.getD k 0 + 2 then S.done k t 0 (faultF M.c (opAt M d k S))
  else if S.how.getD k 0 ≠ 0 ∨ t < S.free.getD k 0 ∨ ((progF M d k).length : Int) ≤ S.next.getD k 0 ∨ openB M.c k d t = false then S
  else So.begin M d k S t

/-- The cores j, j + 1, .., n of them. -/
def So.worksAll (M : MDat) (d : Nat) (t : Int) : Nat → Nat → So → So
  | 0, _, S => S
  | n + 1, j, S => So.worksAll M d t n (j + 1) (So.works M d j S t)

/-- What a cycle does. -/
def So.cycle (M : MDat) (d : Nat) (S : So) (t : Int) : So := So.worksAll M d t M.c.cores.toNat 0 (So.service M d S t)

def So.start (n : Nat) : So := ⟨[], [], List.replicate n 0, List.replicate n 0, List.replicate n 0, List.replicate n 0, []⟩

/-- The first T cycles. -/
def So.upto (M : MDat) (d : Nat) : Nat → So
  | 0 => So.start M.c.cores.toNat
  | t + 1 => So.cycle M d (So.upto M d t) t

end Go.Proofs.YtehheaedbnfidaaGreat

namespace Go.Proofs.YtehheaedbnfidaaGreat

/-- Sizes of what has happened. -/
structure EntOk (e : Ent) : Prop where
  l0 : 0 ≤ e.line
  l1 : e.line ≤ 100
  t0 : 0 ≤ e.t
  t1 : e.t ≤ 10000

structure SoOk (M : MDat) (d : Nat) (S : So) (B : Nat) : Prop where
  hl : S.how.length = M.c.cores.toNat
  nl : S.next.length = M.c.cores.toNat
  fl : S.free.length = M.c.cores.toNat
  bl : S.began.length = M.c.cores.toNat
  log : ∀ e ∈ S.log, EntOk e
  nx : ∀ k, k < M.c.cores.toNat → 0 ≤ S.next.getD k 0 ∧ S.next.getD k 0 ≤ (progF M d k).length
  hw : ∀ k, k < M.c.cores.toNat → S.how.getD k 0 = 0 ∨ ((S.how.getD k 0 = 1 ∨ S.how.getD k 0 = 2) ∧ S.next.getD k 0 < (progF M d k).length)
  w1 : ∀ k, k < M.c.cores.toNat → S.how.getD k 0 = 1 → faultF M.c (opAt M d k S) = 0
  qu : ∀ q ∈ S.queue, ∃ k : Nat, q = k ∧ k < M.c.cores.toNat ∧ S.how.getD k 0 = 1
  nd : S.queue.Nodup
  fr : ∀ k, k < M.c.cores.toNat → 0 ≤ S.free.getD k 0 ∧ S.free.getD k 0 ≤ 10001
  bg : ∀ k, k < M.c.cores.toNat → 0 ≤ S.began.getD k 0 ∧ S.began.getD k 0 ≤ 10000
  lb : S.log.length ≤ B
  eb : S.evs.length ≤ B

theorem getD_set {xs : List Int} {k j : Nat} {v : Int} (hk : k < xs.length) : (xs.set k v).getD j 0 = if j = k then v else xs.getD j 0 := by
  rw [List.getD_eq_getElem?_getD, List.getElem?_set]
  by_cases e : k = j
  · subst e; simp [hk]
  · rw [if_neg e, if_neg (fun h => e h.symm), List.getD_eq_getElem?_getD]

theorem SoOk.mono {M : MDat} {d : Nat} {S : So} {B B' : Nat} (h : SoOk M d S B) (hb : B ≤ B') : SoOk M d S B' :=
  { h with lb := Nat.le_trans h.lb hb, eb := Nat.le_trans h.eb hb }

theorem SoOk.told {M : MDat} {d : Nat} {S : So} {B : Nat} (h : SoOk M d S B) (e : Ent) (he : EntOk e) : SoOk M d (S.told e) (B + 1) :=
  ⟨h.hl, h.nl, h.fl, h.bl, fun x hx => by
    rcases List.mem_cons.1 hx with hx | hx
    · subst hx; exact he
    · exact h.log x hx, h.nx, h.hw, h.w1, h.qu, h.nd, h.fr, h.bg, by simp only [So.told, List.length_cons]; have := h.lb; omega, by have := h.eb; simp only [So.told]; omega⟩

/-- Of a play from whose waiting cores k is gone: what is under way at k is done. -/
theorem SoOk.done {M : MDat} {d : Nat} {S : So} {B k : Nat} {t v f : Int} (h : SoOk M d S B) (hk : k < M.c.cores.toNat) (hn : S.next.getD k 0 < (progF M d k).length) (hq : (k : Int) ∉ S.queue) (t0 : 0 ≤ t) (t1 : t ≤ 10000) : SoOk M d (S.done k t v f) (B + 1) := by
  have kn : k < S.next.length := by rw [h.nl]; exact hk
  have kf : k < S.free.length := by rw [h.fl]; exact hk
  have kh : k < S.how.length := by rw [h.hl]; exact hk
  have op : ∀ j, j ≠ k → opAt M d j (S.done k t v f) = opAt M d j S := fun j hj => by
    unfold opAt So.done
    simp only
    rw [getD_set kn, if_neg hj]
  refine ⟨by simp [So.done, h.hl], by simp [So.done, h.nl], by simp [So.done, h.fl], by simp [So.done, h.bl], h.log, ?_, ?_, ?_, ?_, h.nd, ?_, h.bg, by have := h.lb; simp only [So.done]; omega, by simp only [So.done, List.length_append, List.length_cons, List.length_nil]; have := h.eb; omega⟩
  · intro j hj
    simp only [So.done]
    rw [getD_set kn]
    by_cases e : j = k
    · subst e; rw [if_pos rfl]; have := h.nx j hj; omega
    · rw [if_neg e]; exact h.nx j hj
  · intro j hj
    simp only [So.done]
    rw [getD_set kh, getD_set kn]
    by_cases e : j = k
    · subst e; left; rw [if_pos rfl]
    · rw [if_neg e, if_neg e]; exact h.hw j hj
  · intro j hj hw
    by_cases e : j = k
    · subst e
      simp only [So.done] at hw
      rw [getD_set kh, if_pos rfl] at hw
      omega
    · rw [op j e]
      simp only [So.done] at hw
      rw [getD_set kh, if_neg e] at hw
      exact h.w1 j hj hw
  · intro q hq2
    obtain ⟨j, e1, e2, e3⟩ := h.qu q hq2
    refine ⟨j, e1, e2, ?_⟩
    simp only [So.done]
    rw [getD_set kh, if_neg (fun e => by subst e; subst e1; exact hq hq2)]
    exact e3
  · intro j hj
    simp only [So.done]
    rw [getD_set kf]
    by_cases e : j = k
    · subst e; rw [if_pos rfl]; omega
    · rw [if_neg e]; exact h.fr j hj

/-- The line of an operation that is no fault. -/
theorem fault_none {c : Cf} {o : OpT} (h : faultF c o = 0) : 0 ≤ o.2.1 ∧ o.2.1 < c.priv + c.shared := by
  unfold faultF at h
  by_cases h1 : o.2.1 < 0 ∨ c.priv + c.shared ≤ o.2.1
  · rw [if_pos h1] at h; omega
  · omega

theorem line_ok {c : Cf} (hc : chk c = 0) {a : Int} (a0 : 0 ≤ a) (a1 : a < c.priv + c.shared) : 0 ≤ a / c.line ∧ a / c.line ≤ 100 := by
  obtain ⟨_, _, _, _, _, _, hl, p1, p2, sh0, sh1⟩ := shape_bounds (chk_zero hc).1
  refine ⟨Int.ediv_nonneg a0 (by omega), ?_⟩
  have := Int.ediv_le_self c.line a0
  omega

theorem lies_ok {c : Cf} {set way : Int} : ∀ {log : List Ent}, (∀ e ∈ log, EntOk e) → 0 ≤ liesF c set way log → liesF c set way log ≤ 100
  | [], _, h => by simp [liesF] at h
  | e :: r, hl, h => by
    unfold liesF at h ⊢
    by_cases h1 : ((e.line % c.sets == set) && e.way == way && e.what == 1) = true
    · rw [if_pos h1]; exact (hl e (List.mem_cons_self ..)).l1
    · rw [if_neg h1] at h ⊢
      by_cases h2 : ((e.line % c.sets == set) && e.way == way && e.what == 2) = true
      · rw [if_pos h2]; omega
      · rw [if_neg h2] at h ⊢
        exact lies_ok (fun x hx => hl x (List.mem_cons_of_mem _ hx)) h

theorem SoOk.pop {M : MDat} {d : Nat} {S : So} {B : Nat} {q : Int} {r : List Int} (h : SoOk M d S B) (hq : S.queue = q :: r) : SoOk M d { S with queue := r } B ∧ q ∉ r := by
  have hnd := h.nd
  rw [hq] at hnd
  refine ⟨⟨h.hl, h.nl, h.fl, h.bl, h.log, h.nx, h.hw, h.w1, fun x hx => h.qu x (by rw [hq]; exact List.mem_cons_of_mem _ hx), (List.nodup_cons.1 hnd).2, h.fr, h.bg, h.lb, h.eb⟩, (List.nodup_cons.1 hnd).1⟩

theorem SoOk.serve {M : MDat} {d : Nat} {S : So} {B : Nat} {t : Int} (h : SoOk M d S B) (hc : chk M.c = 0) (t0 : 0 ≤ t) (t1 : t ≤ 10000) : SoOk M d (So.serve M d S t) (B + 3) := by
  unfold So.serve
  cases hq : S.queue with
  | nil => exact h.mono (by omega)
  | cons core r =>
    obtain ⟨k, rfl, hk, hk1⟩ := h.qu core (by rw [hq]; exact List.mem_cons_self ..)
    simp only [Int.toNat_natCast]
    have hf := h.w1 k hk hk1
    obtain ⟨a0, a1⟩ := fault_none hf
    obtain ⟨x0, x1⟩ := line_ok hc a0 a1
    have hn : S.next.getD k 0 < (progF M d k).length := by rcases h.hw k hk with e | e <;> omega
    obtain ⟨hp, hq2⟩ := h.pop hq
    by_cases c1 : 0 ≤ whereF ((opAt M d k S).2.1 / M.c.line) S.log
    · rw [if_pos c1]
      by_cases c2 : (opAt M d k S).1 = 1
      · rw [if_pos c2]
        exact ((hp.told _ ⟨x0, x1, t0, t1⟩).told _ ⟨x0, x1, t0, t1⟩).done hk hn hq2 t0 t1
      · rw [if_neg c2]
        exact ((hp.told _ ⟨x0, x1, t0, t1⟩).done hk hn hq2 t0 t1).mono (by omega)
    · rw [if_neg c1]
      by_cases c2 : 0 ≤ liesF M.c ((opAt M d k S).2.1 / M.c.line % M.c.sets) (chosenF M.c (M.c.ways.count (d : Int)) ((opAt M d k S).2.1 / M.c.line % M.c.sets) S.log) S.log
      · rw [if_pos c2]
        have y1 := lies_ok h.log c2
        by_cases c3 : markedF (liesF M.c ((opAt M d k S).2.1 / M.c.line % M.c.sets) (chosenF M.c (M.c.ways.count (d : Int)) ((opAt M d k S).2.1 / M.c.line % M.c.sets) S.log) S.log) S.log = true
        · rw [if_pos c3]
          exact (h.told _ ⟨c2, y1, t0, t1⟩).mono (by omega)
        · rw [if_neg c3]
          exact ((h.told _ ⟨c2, y1, t0, t1⟩).told _ ⟨x0, x1, t0, t1⟩).mono (by omega)
      · rw [if_neg c2]
        exact (h.told _ ⟨x0, x1, t0, t1⟩).mono (by omega)

theorem SoOk.service {M : MDat} {d : Nat} {S : So} {B : Nat} {t : Int} (h : SoOk M d S B) (hc : chk M.c = 0) (t0 : 0 ≤ t) (t1 : t ≤ 10000) : SoOk M d (So.service M d S t) (B + 3) := by
  unfold So.service
  by_cases c1 : servesB M.c d t = true
  · rw [if_pos c1]; exact h.serve hc t0 t1
  · rw [if_neg c1]; exact h.mono (by omega)

/-- Since t something is under way at k, which was idle. -/
theorem SoOk.began {M : MDat} {d : Nat} {S : So} {B k : Nat} {t : Int} (h : SoOk M d S B) (hk : k < M.c.cores.toNat) (t0 : 0 ≤ t) (t1 : t ≤ 10000) : SoOk M d { S with began := S.began.set k t } B := by
  have kb : k < S.began.length := by rw [h.bl]; exact hk
  refine ⟨h.hl, h.nl, h.fl, by simp [h.bl], h.log, h.nx, h.hw, h.w1, h.qu, h.nd, h.fr, fun j hj => ?_, h.lb, h.eb⟩
  simp only
  rw [getD_set kb]
  by_cases e : j = k
  · rw [if_pos e]; omega
  · rw [if_neg e]; exact h.bg j hj

theorem SoOk.begin {M : MDat} {d : Nat} {S : So} {B k : Nat} {t : Int} (h : SoOk M d S B) (hc : chk M.c = 0) (hk : k < M.c.cores.toNat) (hn : S.next.getD k 0 < (progF M d k).length) (h0 : S.how.getD k 0 = 0) (t0 : 0 ≤ t) (t1 : t ≤ 10000) : SoOk M d (So.begin M d k S t) (B + 2) := by
  have kh : k < S.how.length := by rw [h.hl]; exact hk
  have hb := h.began hk t0 t1
  have nq : (k : Int) ∉ S.queue := fun hq => by
    obtain ⟨j, e1, e2, e3⟩ := h.qu _ hq
    have : k = j := by omega
    subst this
    omega
  unfold So.begin
  by_cases c1 : faultF M.c (opAt M d k S) ≠ 0
  · simp only [if_pos c1]
    refine ⟨by simp [h.hl], h.nl, h.fl, hb.bl, h.log, h.nx, fun j hj => ?_, fun j hj hw => ?_, fun q hq => ?_, h.nd, h.fr, hb.bg, by have := h.lb; simp only; omega, by have := h.eb; simp only; omega⟩
    · simp only
      rw [getD_set kh]
      by_cases e : j = k
      · subst e; right; rw [if_pos rfl]; exact ⟨Or.inr rfl, hn⟩
      · rw [if_neg e]; exact h.hw j hj
    · simp only at hw
      rw [getD_set kh] at hw
      by_cases e : j = k
      · rw [if_pos e] at hw; omega
      · rw [if_neg e] at hw; exact h.w1 j hj hw
    · obtain ⟨j, e1, e2, e3⟩ := h.qu q hq
      refine ⟨j, e1, e2, ?_⟩
      simp only
      rw [getD_set kh, if_neg (fun e => by subst e; omega)]
      exact e3
  · simp only [if_neg c1]
    have hf : faultF M.c (opAt M d k S) = 0 := by omega
    obtain ⟨a0, a1⟩ := fault_none hf
    obtain ⟨x0, x1⟩ := line_ok hc a0 a1
    by_cases c2 : stateF M.c k ((opAt M d k S).2.1 / M.c.line) t false S.log = 0 ∨ ((opAt M d k S).1 = 1 ∧ stateF M.c k ((opAt M d k S).2.1 / M.c.line) t false S.log = 1)
    · simp only [if_pos c2]
      refine ⟨by simp [h.hl], h.nl, h.fl, hb.bl, h.log, h.nx, fun j hj => ?_, fun j hj hw => ?_, fun q hq => ?_, ?_, h.fr, hb.bg, by have := h.lb; simp only; omega, by have := h.eb; simp only; omega⟩
      · simp only
        rw [getD_set kh]
        by_cases e : j = k
        · subst e; right; rw [if_pos rfl]; exact ⟨Or.inl rfl, hn⟩
        · rw [if_neg e]; exact h.hw j hj
      · simp only at hw
        rw [getD_set kh] at hw
        by_cases e : j = k
        · subst e; exact hf
        · rw [if_neg e] at hw; exact h.w1 j hj hw
      · simp only at hq ⊢
        rcases List.mem_append.1 hq with hq | hq
        · obtain ⟨j, e1, e2, e3⟩ := h.qu q hq
          refine ⟨j, e1, e2, ?_⟩
          rw [getD_set kh, if_neg (fun e => by subst e; omega)]
          exact e3
        · have : q = (k : Int) := by simpa using hq
          exact ⟨k, this, hk, by rw [getD_set kh, if_pos rfl]⟩
      · simp only
        rw [List.nodup_append]
        refine ⟨h.nd, by simp, fun x hx y hy e => ?_⟩
        have : y = (k : Int) := by simpa using hy
        subst this
        subst e
        exact nq hx
    · simp only [if_neg c2]
      by_cases c3 : (opAt M d k S).1 = 1
      · simp only [if_pos c3]
        exact (hb.told _ ⟨x0, x1, t0, t1⟩).done hk hn nq t0 t1
      · simp only [if_neg c3]
        exact (hb.done hk hn nq t0 t1).mono (by omega)

theorem SoOk.works {M : MDat} {d : Nat} {S : So} {B k : Nat} {t : Int} (h : SoOk M d S B) (hc : chk M.c = 0) (hk : k < M.c.cores.toNat) (t0 : 0 ≤ t) (t1 : t ≤ 10000) : SoOk M d (So.works M d k S t) (B + 2) := by
  unfold So.works
  by_cases c1 : S.how.getD k 0 = 2 ∧ t = S.began.getD k 0 + 2
  · rw [if_pos c1]
    have hn : S.next.getD k 0 < (progF M d k).length := by rcases h.hw k hk with e | e <;> omega
    refine (h.done hk hn (fun hq => ?_) t0 t1).mono (by omega)
    obtain ⟨j, e1, e2, e3⟩ := h.qu _ hq
    have : k = j := by omega
    subst this
    omega
  · rw [if_neg c1]
    by_cases c2 : S.how.getD k 0 ≠ 0 ∨ t < S.free.getD k 0 ∨ ((progF M d k).length : Int) ≤ S.next.getD k 0 ∨ openB M.c k d t = false
    · rw [if_pos c2]; exact h.mono (by omega)
    · rw [if_neg c2]
      exact h.begin hc hk (by omega) (by omega) t0 t1

theorem SoOk.worksAll {M : MDat} {d : Nat} {t : Int} (hc : chk M.c = 0) (t0 : 0 ≤ t) (t1 : t ≤ 10000) : ∀ (n j : Nat) {S : So} {B : Nat}, SoOk M d S B → j + n ≤ M.c.cores.toNat → SoOk M d (So.worksAll M d t n j S) (B + 2 * n)
  | 0, _, _, _, h, _ => h
  | n + 1, j, S, B, h, hj => by
    have := SoOk.worksAll hc t0 t1 n (j + 1) (h.works hc (by omega : j < _) t0 t1) (by omega)
    exact this.mono (by omega)

theorem SoOk.cycle {M : MDat} {d : Nat} {S : So} {B : Nat} {t : Int} (h : SoOk M d S B) (hc : chk M.c = 0) (t0 : 0 ≤ t) (t1 : t ≤ 10000) : SoOk M d (So.cycle M d S t) (B + 9) := by
  have c2 := (right_of hc).c2
  have := SoOk.worksAll (d := d) hc t0 t1 M.c.cores.toNat 0 (h.service hc t0 t1) (by omega)
  exact this.mono (by omega)

theorem SoOk.start {M : MDat} {d : Nat} : SoOk M d (So.start M.c.cores.toNat) 0 := by
  have z : ∀ k, (List.replicate M.c.cores.toNat (0 : Int)).getD k 0 = 0 := fun k => by
    rw [List.getD_eq_getElem?_getD, List.getElem?_replicate]; split <;> rfl
  refine ⟨by simp [So.start], by simp [So.start], by simp [So.start], by simp [So.start], by simp [So.start], fun k _ => ?_, fun k _ => Or.inl (z k), fun k _ hw => ?_, by simp [So.start], by simp [So.start], fun k _ => ?_, fun k _ => ?_, by simp [So.start], by simp [So.start]⟩
  · show 0 ≤ (List.replicate M.c.cores.toNat (0 : Int)).getD k 0 ∧ _
    simp only [So.start]
    rw [z]; omega
  · have : (List.replicate M.c.cores.toNat (0 : Int)).getD k 0 = 1 := hw
    rw [z] at this; omega
  · simp only [So.start]; rw [z]; omega
  · simp only [So.start]; rw [z]; omega

theorem SoOk.upto {M : MDat} {d : Nat} (hc : chk M.c = 0) : ∀ (T : Nat), T ≤ 10000 → SoOk M d (So.upto M d T) (9 * T)
  | 0, _ => SoOk.start
  | t + 1, h => (SoOk.cycle (SoOk.upto hc t (by omega)) hc (by omega) (by omega)).mono (by omega)

end Go.Proofs.YtehheaedbnfidaaGreat

namespace Go.Proofs.YtehheaedbnfidaaGreat

def neverZ : Int := 1099511627776

def opensF (c : Cf) (k : Nat) (d : Int) : Nat → Int → Int
  | 0, _ => neverZ
  | n + 1, u => if openB c k d u = true then u else opensF c k d n ((u / c.quantum + 1) * c.quantum)

def opensZ (c : Cf) (k : Nat) (d t : Int) : Int := opensF c k d ((rowOf c k).length + 1) t

def coreF (M : MDat) (d k : Nat) (S : So) (t : Int) : Int :=
  if S.how.getD k 0 = 2 then S.began.getD k 0 + 2
  else if S.how.getD k 0 = 0 ∧ S.next.getD k 0 < (progF M d k).length then (if t < S.free.getD k 0 then opensZ M.c k d (S.free.getD k 0) else opensZ M.c k d t)
  else neverZ

/-- The least of u and of what the cores j, .., n of them, tell. -/
def soonF (M : MDat) (d : Nat) (S : So) (t : Int) : Nat → Nat → Int → Int
  | 0, _, u => u
  | n + 1, j, u => soonF M d S t n (j + 1) (if coreF M d j S t < u then coreF M d j S t else u)

def soonZ (M : MDat) (d : Nat) (S : So) (t : Int) : Int := soonF M d S t M.c.cores.toNat 0 (if S.queue = [] then neverZ else waitZ M.c d t)

theorem soonF_le (M : MDat) (d : Nat) (S : So) (t : Int) : ∀ (n j : Nat) (u : Int), soonF M d S t n j u ≤ u ∧ ∀ i, j ≤ i → i < j + n → soonF M d S t n j u ≤ coreF M d i S t
  | 0, j, u => ⟨Int.le_refl _, fun i h1 h2 => by omega⟩
  | n + 1, j, u => by
    obtain ⟨h1, h2⟩ := soonF_le M d S t n (j + 1) (if coreF M d j S t < u then coreF M d j S t else u)
    unfold soonF
    have hu : (if coreF M d j S t < u then coreF M d j S t else u) ≤ u ∧ (if coreF M d j S t < u then coreF M d j S t else u) ≤ coreF M d j S t := by
      by_cases h : coreF M d j S t < u
      · rw [if_pos h]; omega
      · rw [if_neg h]; omega
    refine ⟨Int.le_trans h1 hu.1, fun i hi1 hi2 => ?_⟩
    by_cases e : i = j
    · subst e; exact Int.le_trans h1 hu.2
    · exact h2 i (by omega) (by omega)

/-- Within a turn: what is not open does not open again. -/
theorem open_later {c : Cf} {k : Nat} {d u v : Int} (hq : 0 < c.quantum) (h : openB c k d u = false) (h1 : u ≤ v) (h2 : v < (u / c.quantum + 1) * c.quantum) : openB c k d v = false := by
  have e1 := Int.mul_ediv_add_emod u c.quantum
  have e2 := Int.mul_ediv_add_emod v c.quantum
  have r0 := Int.emod_nonneg v (show c.quantum ≠ 0 by omega)
  have r1 := Int.emod_lt_of_pos v hq
  have s0 := Int.emod_nonneg u (show c.quantum ≠ 0 by omega)
  have l1 : u / c.quantum ≤ v / c.quantum := Int.ediv_le_ediv hq h1
  have l2 : v / c.quantum < u / c.quantum + 1 := Int.ediv_lt_of_lt_mul hq h2
  have l3 : v / c.quantum = u / c.quantum := by omega
  rw [l3] at e2
  have l4 : u % c.quantum ≤ v % c.quantum := by omega
  unfold openB turnZ at h ⊢
  rw [l3]
  by_cases g : v % c.quantum < c.quantum - c.flush - worstZ c
  · have g' : u % c.quantum < c.quantum - c.flush - worstZ c := by omega
    rw [decide_eq_true g'] at h
    rw [decide_eq_true g]
    exact h
  · rw [decide_eq_false g]
    simp

/-- The turn q is d's at k. -/
def turnIs (c : Cf) (k : Nat) (d q : Int) : Bool := ((rowOf c k).getD (q % ((rowOf c k).length : Int)).toNat 0 == d)

theorem open_turn {c : Cf} {k : Nat} {d v : Int} (h : openB c k d v = true) : turnIs c k d (v / c.quantum) = true ∧ 0 ≤ d := by
  unfold openB turnZ at h
  simp only [Bool.and_eq_true, decide_eq_true_eq] at h
  exact ⟨h.1.1, h.1.2⟩

theorem open_start {c : Cf} {k : Nat} {d q : Int} (R : Right c) (h : turnIs c k d q = true) (hd : 0 ≤ d) : openB c k d (q * c.quantum) = true := by
  have q1 := R.q1
  have w0 := R.w0
  have f1 := R.f1
  unfold openB turnZ
  rw [Int.mul_ediv_cancel _ (by omega), Int.mul_emod_left]
  unfold turnIs at h
  rw [h, decide_eq_true hd, decide_eq_true (by omega)]
  rfl

/-- Nothing is open ahead of what opensF tells, where it tells a cycle of the next n turns. -/
theorem opensF_spec {c : Cf} {k : Nat} {d : Int} (hq : 0 < c.quantum) : ∀ (n : Nat) (u v : Int), u ≤ v → v < opensF c k d n u → v < (u / c.quantum + n) * c.quantum → openB c k d v = false
  | 0, u, v, h1, _, h3 => by
    have e1 := Int.mul_ediv_add_emod u c.quantum
    have s0 := Int.emod_nonneg u (show c.quantum ≠ 0 by omega)
    rw [Int.mul_comm] at e1
    simp only [Int.natCast_zero, Int.add_zero] at h3
    omega
  | n + 1, u, v, h1, h2, h3 => by
    unfold opensF at h2
    by_cases ho : openB c k d u = true
    · rw [if_pos ho] at h2; omega
    · rw [if_neg ho] at h2
      have ho' : openB c k d u = false := by simpa using ho
      by_cases g : v < (u / c.quantum + 1) * c.quantum
      · exact open_later hq ho' h1 g
      · refine opensF_spec hq n ((u / c.quantum + 1) * c.quantum) v (by omega) h2 ?_
        rw [Int.mul_ediv_cancel _ (by omega)]
        have e : u / c.quantum + ((n + 1 : Nat) : Int) = u / c.quantum + 1 + (n : Int) := by omega
        rw [e] at h3
        exact h3

/-- opensF tells no later cycle than the first that is open at a turn's beginning. -/
theorem opensF_le {c : Cf} {k : Nat} {d : Int} (hq : 0 < c.quantum) : ∀ (n : Nat) (u : Int) (i : Nat), 1 ≤ i → i < n → openB c k d ((u / c.quantum + i) * c.quantum) = true → opensF c k d n u ≤ (u / c.quantum + i) * c.quantum
  | 0, _, i, _, h, _ => by omega
  | n + 1, u, i, h1, h2, ho => by
    unfold opensF
    have e1 := Int.mul_ediv_add_emod u c.quantum
    have s1 := Int.emod_lt_of_pos u hq
    rw [Int.mul_comm] at e1
    by_cases hu : openB c k d u = true
    · rw [if_pos hu]
      have : (u / c.quantum + 1) * c.quantum ≤ (u / c.quantum + i) * c.quantum := Int.mul_le_mul_of_nonneg_right (by omega) (by omega)
      rw [Int.add_mul, Int.one_mul] at this
      omega
    · rw [if_neg hu]
      by_cases e : i = 1
      · subst e
        cases n with
        | zero => omega
        | succ m =>
          unfold opensF
          have ho' : openB c k d ((u / c.quantum + 1) * c.quantum) = true := ho
          rw [if_pos ho']
          exact Int.le_refl _
      · have := opensF_le (k := k) (d := d) hq n ((u / c.quantum + 1) * c.quantum) (i - 1) (by omega) (by omega)
        rw [Int.mul_ediv_cancel _ (by omega)] at this
        have e2 : u / c.quantum + 1 + ((i - 1 : Nat) : Int) = u / c.quantum + (i : Int) := by omega
        rw [e2] at this
        exact this ho

theorem turn_period {c : Cf} {k : Nat} {d q : Int} (h : turnIs c k d q = true) (hl : 0 < (rowOf c k).length) (p : Int) : ∃ i : Nat, 1 ≤ i ∧ i ≤ (rowOf c k).length ∧ turnIs c k d (p + i) = true := by
  have h1 := Int.emod_nonneg (q - p - 1) (show ((rowOf c k).length : Int) ≠ 0 by omega)
  have h2 := Int.emod_lt_of_pos (q - p - 1) (show (0 : Int) < ((rowOf c k).length : Int) by omega)
  obtain ⟨i, hi⟩ := Int.eq_ofNat_of_zero_le h1
  refine ⟨i + 1, by omega, by omega, ?_⟩
  unfold turnIs at h ⊢
  have e : (p + ((i + 1 : Nat) : Int)) % ((rowOf c k).length : Int) = q % ((rowOf c k).length : Int) := by
    rw [show p + ((i + 1 : Nat) : Int) = (i : Int) + (p + 1) by omega, ← hi, Int.emod_add_emod, show q - p - 1 + (p + 1) = q by omega]
  rw [e]
  exact h

theorem opens_spec {c : Cf} {k : Nat} {d t v : Int} (R : Right c) (hl : 0 < (rowOf c k).length) (h1 : t ≤ v) (h2 : v < opensZ c k d t) : openB c k d v = false := by
  have q1 := R.q1
  have w0 := R.w0
  have f1 := R.f1
  have hq : 0 < c.quantum := by omega
  cases ho : openB c k d v with
  | false => rfl
  | true =>
    exfalso
    by_cases g : v < (t / c.quantum + ((rowOf c k).length + 1 : Nat)) * c.quantum
    · have := opensF_spec hq _ t v h1 h2 g
      rw [ho] at this
      exact absurd this (by simp)
    · obtain ⟨ht, hd⟩ := open_turn ho
      obtain ⟨i, i1, i2, hi⟩ := turn_period ht hl (t / c.quantum)
      have := opensF_le hq ((rowOf c k).length + 1) t i i1 (by omega) (open_start R hi hd)
      have h3 : (t / c.quantum + (i : Int)) * c.quantum ≤ (t / c.quantum + ((rowOf c k).length + 1 : Nat)) * c.quantum := Int.mul_le_mul_of_nonneg_right (by omega) (by omega)
      unfold opensZ at h2
      omega

theorem opensF_ge {c : Cf} {k : Nat} {d : Int} (hq : 0 < c.quantum) : ∀ (n : Nat) (u : Int), u ≤ opensF c k d n u ∨ opensF c k d n u = neverZ
  | 0, u => Or.inr rfl
  | n + 1, u => by
    unfold opensF
    by_cases hu : openB c k d u = true
    · rw [if_pos hu]; left; omega
    · rw [if_neg hu]
      have e1 := Int.mul_ediv_add_emod u c.quantum
      have s1 := Int.emod_lt_of_pos u hq
      rw [Int.mul_comm] at e1
      rcases opensF_ge (k := k) (d := d) hq n ((u / c.quantum + 1) * c.quantum) with h2 | h2
      · left
        have e2 : (u / c.quantum + 1) * c.quantum = u / c.quantum * c.quantum + c.quantum := by rw [Int.add_mul, Int.one_mul]
        omega
      · exact Or.inr h2

/-- What fails is done in time. -/
def FailOk (M : MDat) (S : So) (t : Int) : Prop := ∀ k, k < M.c.cores.toNat → S.how.getD k 0 = 2 → t ≤ S.began.getD k 0 + 2

theorem row_pos {c : Cf} (hc : chk c = 0) {k : Nat} (hk : k < c.cores.toNat) : 0 < (rowOf c k).length := by
  have R := right_of hc
  have := grid_row R (i := k) (by have := R.tl; omega)
  unfold rowOf
  omega

theorem works_skip {M : MDat} {d k : Nat} {S : So} {t v : Int} (hc : chk M.c = 0) (hk : k < M.c.cores.toNat) (h1 : t ≤ v) (h2 : v < coreF M d k S t) : So.works M d k S v = S := by
  unfold So.works
  unfold coreF at h2
  by_cases c1 : S.how.getD k 0 = 2
  · rw [if_pos c1] at h2
    rw [if_neg (by omega), if_pos (Or.inl (by omega))]
  · rw [if_neg c1] at h2
    rw [if_neg (by omega)]
    by_cases c2 : S.how.getD k 0 = 0 ∧ S.next.getD k 0 < (progF M d k).length
    · rw [if_pos c2] at h2
      by_cases c3 : v < S.free.getD k 0
      · rw [if_pos (Or.inr (Or.inl c3))]
      · refine if_pos (Or.inr (Or.inr (Or.inr ?_)))
        by_cases c4 : t < S.free.getD k 0
        · rw [if_pos c4] at h2
          exact opens_spec (right_of hc) (row_pos hc hk) (by omega) h2
        · rw [if_neg c4] at h2
          exact opens_spec (right_of hc) (row_pos hc hk) h1 h2
    · refine if_pos ?_
      by_cases c3 : S.how.getD k 0 = 0
      · right; right; left; omega
      · exact Or.inl c3

theorem worksAll_skip {M : MDat} {d : Nat} {S : So} {t v : Int} (hc : chk M.c = 0) (h1 : t ≤ v) : ∀ (n j : Nat), j + n ≤ M.c.cores.toNat → (∀ i, j ≤ i → i < j + n → v < coreF M d i S t) → So.worksAll M d v n j S = S
  | 0, _, _, _ => rfl
  | n + 1, j, hj, h => by
    unfold So.worksAll
    rw [works_skip hc (by omega) h1 (h j (Nat.le_refl _) (by omega))]
    exact worksAll_skip hc h1 n (j + 1) (by omega) (fun i h3 h4 => h i (by omega) (by omega))

theorem wait_skip {c : Cf} {d : Nat} {t v : Int} (hc : chk c = 0) (hd : (d : Int) < c.domains) (t0 : 0 ≤ t) (h1 : t ≤ v) (h2 : v < waitZ c d t) : servesB c d v = false := by
  have R := right_of hc
  obtain ⟨n, rfl⟩ := Int.eq_ofNat_of_zero_le t0
  have hs := R.s1
  have hcnt := serves_count c d hs n
  have hpos := owns_slot (chk_zero hc).2.2.1 (d := (d : Int)) (by omega) hd
  have e : ((c.slots.length : Int) * c.slot).toNat = c.slots.length * c.slot.toNat := by
    have : (c.slots.length : Int) * c.slot = ((c.slots.length * c.slot.toNat : Nat) : Int) := by
      rw [Int.natCast_mul, Int.toNat_of_nonneg (by omega)]
    rw [this, Int.toNat_natCast]
  obtain ⟨_, _, _, h4⟩ := firstF_spec (p := servesB c d) (c.slots.length * c.slot.toNat) (n : Int) (by omega)
  unfold waitZ at h2
  rw [e] at h2
  exact h4 v h1 h2

theorem cycle_skip {M : MDat} {d : Nat} {S : So} {t v : Int} (hc : chk M.c = 0) (hd : (d : Int) < M.c.domains) (t0 : 0 ≤ t) (h1 : t ≤ v) (h2 : v < soonZ M d S t) : So.cycle M d S v = S := by
  obtain ⟨g1, g2⟩ := soonF_le M d S t M.c.cores.toNat 0 (if S.queue = [] then neverZ else waitZ M.c d t)
  have s : So.service M d S v = S := by
    unfold So.service
    by_cases c1 : S.queue = []
    · by_cases c2 : servesB M.c d v = true
      · rw [if_pos c2]; unfold So.serve; rw [c1]
      · rw [if_neg c2]
    · rw [if_neg c1] at g1
      unfold soonZ at h2
      rw [if_neg c1] at h2
      rw [wait_skip hc hd t0 h1 (by omega)]
      simp
  unfold So.cycle
  rw [s]
  exact worksAll_skip hc h1 _ 0 (by omega) (fun i h3 h4 => by
    have := g2 i h3 h4
    unfold soonZ at h2
    omega)

theorem upto_skip {M : MDat} {d : Nat} (hc : chk M.c = 0) (hd : (d : Int) < M.c.domains) (t0 : Nat) : ∀ (n : Nat), (((t0 + n : Nat) : Int) ≤ soonZ M d (So.upto M d t0) t0) → So.upto M d (t0 + n) = So.upto M d t0
  | 0, _ => rfl
  | n + 1, h => by
    have ih := upto_skip hc hd t0 n (by omega)
    show So.cycle M d (So.upto M d (t0 + n)) ((t0 + n : Nat) : Int) = _
    rw [ih]
    exact cycle_skip hc hd (t := (t0 : Int)) (by omega) (by omega) (by omega)

end Go.Proofs.YtehheaedbnfidaaGreat

namespace Go.Proofs.YtehheaedbnfidaaGreat

theorem firstF_ge {p : Int → Bool} : ∀ (n : Nat) (u : Int), u ≤ firstF p n u
  | 0, u => Int.le_refl _
  | n + 1, u => by
    unfold firstF
    by_cases h : p u = true
    · rw [if_pos h]; exact Int.le_refl _
    · rw [if_neg h]; have := firstF_ge (p := p) n (u + 1); omega

theorem firstF_lt {p : Int → Bool} : ∀ (n : Nat) (u : Int), firstF p n u ≤ u + n
  | 0, u => by simp [firstF]
  | n + 1, u => by
    unfold firstF
    by_cases h : p u = true
    · rw [if_pos h]; omega
    · rw [if_neg h]; have := firstF_lt (p := p) n (u + 1); omega

theorem getD_set_ne {xs : List Int} {k j : Nat} {v : Int} (h : j ≠ k) : (xs.set k v).getD j 0 = xs.getD j 0 := by
  rw [List.getD_eq_getElem?_getD, List.getElem?_set_ne (fun e => h e.symm), List.getD_eq_getElem?_getD]

theorem soonF_ge (M : MDat) (d : Nat) (S : So) (t : Int) : ∀ (n j : Nat) (u : Int), t ≤ u → (∀ i, j ≤ i → i < j + n → t ≤ coreF M d i S t) → t ≤ soonF M d S t n j u
  | 0, _, u, h, _ => h
  | n + 1, j, u, h, hc => by
    unfold soonF
    refine soonF_ge M d S t n (j + 1) _ ?_ (fun i h1 h2 => hc i (by omega) (by omega))
    by_cases g : coreF M d j S t < u
    · rw [if_pos g]; exact hc j (Nat.le_refl _) (by omega)
    · rw [if_neg g]; exact h

theorem opensZ_ge {c : Cf} {k : Nat} {d t : Int} (R : Right c) (h : t ≤ neverZ) : t ≤ opensZ c k d t := by
  have q1 := R.q1
  have w0 := R.w0
  have f1 := R.f1
  rcases opensF_ge (k := k) (d := d) (show 0 < c.quantum by omega) ((rowOf c k).length + 1) t with g | g
  · exact g
  · unfold opensZ; rw [g]; exact h

theorem soon_ge {M : MDat} {d : Nat} {S : So} {t : Int} (hc : chk M.c = 0) (hf : FailOk M S t) (hfr : ∀ k, k < M.c.cores.toNat → S.free.getD k 0 ≤ 10001) (h : t ≤ 20000) : t ≤ soonZ M d S t := by
  have R := right_of hc
  unfold soonZ
  refine soonF_ge M d S t _ 0 _ ?_ (fun i _ h2 => ?_)
  · by_cases g : S.queue = []
    · rw [if_pos g]; unfold neverZ; omega
    · rw [if_neg g]; exact firstF_ge _ _
  · unfold coreF
    by_cases c1 : S.how.getD i 0 = 2
    · rw [if_pos c1]; exact hf i (by omega) c1
    · rw [if_neg c1]
      by_cases c2 : S.how.getD i 0 = 0 ∧ S.next.getD i 0 < (progF M d i).length
      · rw [if_pos c2]
        by_cases c3 : t < S.free.getD i 0
        · rw [if_pos c3]
          have := hfr i (by omega)
          have := opensZ_ge (k := i) (d := (d : Int)) (t := S.free.getD i 0) R (by unfold neverZ; omega)
          omega
        · rw [if_neg c3]
          exact opensZ_ge R (by unfold neverZ; omega)
      · rw [if_neg c2]; unfold neverZ; omega

theorem done_other {S : So} {k j : Nat} {t v f : Int} (h : j ≠ k) : (S.done k t v f).how.getD j 0 = S.how.getD j 0 ∧ (S.done k t v f).began.getD j 0 = S.began.getD j 0 := by
  refine ⟨?_, rfl⟩
  show (S.how.set k 0).getD j 0 = _
  exact getD_set_ne h

theorem done_how {S : So} {k j : Nat} {t v f : Int} (h : (S.done k t v f).how.getD j 0 = 2) : S.how.getD j 0 = 2 ∧ (S.done k t v f).began.getD j 0 = S.began.getD j 0 := by
  by_cases e : j = k
  · subst e
    unfold So.done at h
    simp only at h
    rw [List.getD_eq_getElem?_getD, List.getElem?_set_self'] at h
    cases hq : S.how[j]? with
    | none => rw [hq] at h; simp at h
    | some x => rw [hq] at h; simp at h
  · exact ⟨by rw [← (done_other e).1]; exact h, rfl⟩

theorem service_how {M : MDat} {d : Nat} {S : So} {t : Int} {j : Nat} (h : (So.service M d S t).how.getD j 0 = 2) : S.how.getD j 0 = 2 ∧ (So.service M d S t).began.getD j 0 = S.began.getD j 0 := by
  unfold So.service at h ⊢
  by_cases c1 : servesB M.c d t = true
  · rw [if_pos c1] at h ⊢
    unfold So.serve at h ⊢
    cases hq : S.queue with
    | nil => simp only [hq] at h ⊢; exact ⟨h, trivial⟩
    | cons q r =>
      simp only [hq] at h ⊢
      split at h
      · rename_i g1
        rw [if_pos g1]
        split at h
        · rename_i g2
          rw [if_pos g2]
          have g := done_how h
          exact ⟨g.1, g.2⟩
        · rename_i g2
          rw [if_neg g2]
          have g := done_how h
          exact ⟨g.1, g.2⟩
      · rename_i g1
        rw [if_neg g1]
        split at h
        · rename_i g2
          rw [if_pos g2]
          split at h
          · rename_i g3
            rw [if_pos g3]
            exact ⟨h, rfl⟩
          · rename_i g3
            rw [if_neg g3]
            exact ⟨h, rfl⟩
        · rename_i g2
          rw [if_neg g2]
          exact ⟨h, rfl⟩
  · rw [if_neg c1] at h ⊢
    exact ⟨h, rfl⟩

theorem begin_other {M : MDat} {d : Nat} {S : So} {t : Int} {k j : Nat} (h : j ≠ k) : (So.begin M d k S t).how.getD j 0 = S.how.getD j 0 ∧ (So.begin M d k S t).began.getD j 0 = S.began.getD j 0 := by
  unfold So.begin
  by_cases c1 : faultF M.c (opAt M d k S) ≠ 0
  · simp only [if_pos c1]
    exact ⟨getD_set_ne h, getD_set_ne h⟩
  · simp only [if_neg c1]
    by_cases c2 : stateF M.c k ((opAt M d k S).2.1 / M.c.line) t false S.log = 0 ∨ ((opAt M d k S).1 = 1 ∧ stateF M.c k ((opAt M d k S).2.1 / M.c.line) t false S.log = 1)
    · simp only [if_pos c2]
      exact ⟨getD_set_ne h, getD_set_ne h⟩
    · simp only [if_neg c2]
      by_cases c3 : (opAt M d k S).1 = 1
      · simp only [if_pos c3]
        refine ⟨(done_other h).1, ?_⟩
        rw [(done_other h).2]
        exact getD_set_ne h
      · simp only [if_neg c3]
        refine ⟨(done_other h).1, ?_⟩
        rw [(done_other h).2]
        exact getD_set_ne h

theorem works_other {M : MDat} {d : Nat} {S : So} {t : Int} {k j : Nat} (h : j ≠ k) : (So.works M d k S t).how.getD j 0 = S.how.getD j 0 ∧ (So.works M d k S t).began.getD j 0 = S.began.getD j 0 := by
  unfold So.works
  by_cases c1 : S.how.getD k 0 = 2 ∧ t = S.began.getD k 0 + 2
  · rw [if_pos c1]; exact done_other h
  · rw [if_neg c1]
    by_cases c2 : S.how.getD k 0 ≠ 0 ∨ t < S.free.getD k 0 ∨ ((progF M d k).length : Int) ≤ S.next.getD k 0 ∨ openB M.c k d t = false
    · rw [if_pos c2]; exact ⟨rfl, rfl⟩
    · rw [if_neg c2]; exact begin_other h

theorem begin_began {M : MDat} {d : Nat} {S : So} {t : Int} {k : Nat} (hk : k < S.began.length) : (So.begin M d k S t).began.getD k 0 = t := by
  have e : (S.began.set k t).getD k 0 = t := by rw [getD_set hk, if_pos rfl]
  unfold So.begin
  by_cases c1 : faultF M.c (opAt M d k S) ≠ 0
  · simp only [if_pos c1]; exact e
  · simp only [if_neg c1]
    by_cases c2 : stateF M.c k ((opAt M d k S).2.1 / M.c.line) t false S.log = 0 ∨ ((opAt M d k S).1 = 1 ∧ stateF M.c k ((opAt M d k S).2.1 / M.c.line) t false S.log = 1)
    · simp only [if_pos c2]; exact e
    · simp only [if_neg c2]
      by_cases c3 : (opAt M d k S).1 = 1
      · simp only [if_pos c3]; exact e
      · simp only [if_neg c3]; exact e

theorem works_fail {M : MDat} {d : Nat} {S : So} {t : Int} {k : Nat} (hk : k < S.began.length) (hf : S.how.getD k 0 = 2 → t ≤ S.began.getD k 0 + 2) (h : (So.works M d k S t).how.getD k 0 = 2) : t + 1 ≤ (So.works M d k S t).began.getD k 0 + 2 := by
  unfold So.works at h ⊢
  by_cases c1 : S.how.getD k 0 = 2 ∧ t = S.began.getD k 0 + 2
  · rw [if_pos c1] at h
    exfalso
    unfold So.done at h
    simp only at h
    rw [List.getD_eq_getElem?_getD, List.getElem?_set_self'] at h
    cases hq : S.how[k]? with
    | none => rw [hq] at h; simp at h
    | some x => rw [hq] at h; simp at h
  · rw [if_neg c1] at h ⊢
    by_cases c2 : S.how.getD k 0 ≠ 0 ∨ t < S.free.getD k 0 ∨ ((progF M d k).length : Int) ≤ S.next.getD k 0 ∨ openB M.c k d t = false
    · rw [if_pos c2] at h ⊢
      have := hf h
      omega
    · rw [if_neg c2] at h ⊢
      rw [begin_began hk]
      omega

theorem worksAll_fail {M : MDat} {d : Nat} {t : Int} (hc : chk M.c = 0) (t0 : 0 ≤ t) (t1 : t ≤ 10000) : ∀ (n j : Nat) (S : So) (B : Nat), SoOk M d S B → j + n = M.c.cores.toNat → (∀ i, i < M.c.cores.toNat → S.how.getD i 0 = 2 → if i < j then t + 1 ≤ S.began.getD i 0 + 2 else t ≤ S.began.getD i 0 + 2) → FailOk M (So.worksAll M d t n j S) (t + 1)
  | 0, j, S, _, _, hj, h => fun i hi hh => by
    have := h i hi hh
    rw [if_pos (by omega)] at this
    exact this
  | n + 1, j, S, B, hs, hj, h => by
    unfold So.worksAll
    refine worksAll_fail hc t0 t1 n (j + 1) _ _ (hs.works hc (k := j) (by omega) t0 t1) (by omega) (fun i hi hh => ?_)
    by_cases e : i = j
    · subst e
      rw [if_pos (by omega)]
      exact works_fail (by rw [hs.bl]; exact hi) (fun h2 => by have := h i hi h2; rw [if_neg (by omega)] at this; exact this) hh
    · obtain ⟨g1, g2⟩ := works_other (M := M) (d := d) (S := S) (t := t) e
      rw [g1] at hh
      rw [g2]
      have := h i hi hh
      by_cases g : i < j
      · rw [if_pos g] at this; rw [if_pos (by omega)]; exact this
      · rw [if_neg g] at this; rw [if_neg (by omega)]; exact this

theorem fail_cycle {M : MDat} {d : Nat} {S : So} {t : Int} {B : Nat} (hs : SoOk M d S B) (hc : chk M.c = 0) (t0 : 0 ≤ t) (t1 : t ≤ 10000) (hf : FailOk M S t) : FailOk M (So.cycle M d S t) (t + 1) := by
  unfold So.cycle
  refine worksAll_fail hc t0 t1 _ 0 _ _ (hs.service hc t0 t1) (by omega) (fun i hi hh => ?_)
  rw [if_neg (by omega)]
  obtain ⟨g1, g2⟩ := service_how hh
  rw [g2]
  exact hf i hi g1

theorem fail_upto {M : MDat} {d : Nat} (hc : chk M.c = 0) : ∀ (T : Nat), T ≤ 10000 → FailOk M (So.upto M d T) T
  | 0, _ => fun k _ h => by
    have z : (List.replicate M.c.cores.toNat (0 : Int)).getD k 0 = 0 := by
      rw [List.getD_eq_getElem?_getD, List.getElem?_replicate]; split <;> rfl
    have : (List.replicate M.c.cores.toNat (0 : Int)).getD k 0 = 2 := h
    rw [z] at this
    omega
  | t + 1, h => by
    have := fail_cycle (SoOk.upto (d := d) hc t (by omega)) hc (by omega) (by omega) (fail_upto hc t (by omega))
    exact this
end Go.Proofs.YtehheaedbnfidaaGreat

namespace Go.Proofs.YtehheaedbnfidaaGreat

theorem serve_store {M : MDat} {d k : Nat} {S : So} {q : List Int} {t oad ovl x : Int} (hq : S.queue = (k : Int) :: q) (ho : opAt M d k S = (1, oad, ovl)) (hx : oad / M.c.line = x) (hw : 0 ≤ whereF x S.log) :
    So.serve M d S t = ((({ S with queue := q } : So).told ⟨t, 3, k, x, whereF x S.log, true, false, 0, 0⟩).told ⟨t, 4, k, x, whereF x S.log, false, false, oad, ovl⟩).done k t ovl 0 := by
  unfold So.serve
  rw [hq]
  simp only [Int.toNat_natCast, ho, hx]
  rw [if_pos hw, if_pos trivial]

theorem serve_load {M : MDat} {d k : Nat} {S : So} {q : List Int} {t okd oad ovl x : Int} (hq : S.queue = (k : Int) :: q) (ho : opAt M d k S = (okd, oad, ovl)) (hk : okd ≠ 1) (hx : oad / M.c.line = x) (hw : 0 ≤ whereF x S.log) :
    So.serve M d S t = (({ S with queue := q } : So).told ⟨t, 3, k, x, whereF x S.log, false, loneF M.c k x t S.log M.c.cores.toNat 0 && decide (oad < M.c.priv), 0, 0⟩).done k t (wordF oad (firstF0 M d oad) (⟨t, 3, k, x, whereF x S.log, false, loneF M.c k x t S.log M.c.cores.toNat 0 && decide (oad < M.c.priv), 0, 0⟩ :: S.log)) 0 := by
  unfold So.serve
  rw [hq]
  simp only [Int.toNat_natCast, ho, hx]
  rw [if_pos hw, if_neg hk]
  rfl

theorem serve_gone {M : MDat} {d k : Nat} {S : So} {q : List Int} {t okd oad ovl x way y : Int} (hq : S.queue = (k : Int) :: q) (ho : opAt M d k S = (okd, oad, ovl)) (hx : oad / M.c.line = x) (hw : ¬ 0 ≤ whereF x S.log)
    (hc : chosenF M.c (M.c.ways.count (d : Int)) (x % M.c.sets) S.log = way) (hy : liesF M.c (x % M.c.sets) way S.log = y) (h0 : 0 ≤ y) (hm : markedF y S.log = true) :
    So.serve M d S t = S.told ⟨t, 2, 0, y, way, false, false, 0, 0⟩ := by
  unfold So.serve
  rw [hq]
  simp only [Int.toNat_natCast, ho, hx, hc, hy]
  rw [if_neg hw, if_pos h0, if_pos hm]

theorem serve_both {M : MDat} {d k : Nat} {S : So} {q : List Int} {t okd oad ovl x way y : Int} (hq : S.queue = (k : Int) :: q) (ho : opAt M d k S = (okd, oad, ovl)) (hx : oad / M.c.line = x) (hw : ¬ 0 ≤ whereF x S.log)
    (hc : chosenF M.c (M.c.ways.count (d : Int)) (x % M.c.sets) S.log = way) (hy : liesF M.c (x % M.c.sets) way S.log = y) (h0 : 0 ≤ y) (hm : markedF y S.log = false) :
    So.serve M d S t = (S.told ⟨t, 2, 0, y, way, false, false, 0, 0⟩).told ⟨t, 1, 0, x, way, false, false, 0, 0⟩ := by
  unfold So.serve
  rw [hq]
  simp only [Int.toNat_natCast, ho, hx, hc, hy]
  rw [if_neg hw, if_pos h0, if_neg (by rw [hm]; simp)]

theorem serve_fill {M : MDat} {d k : Nat} {S : So} {q : List Int} {t okd oad ovl x way y : Int} (hq : S.queue = (k : Int) :: q) (ho : opAt M d k S = (okd, oad, ovl)) (hx : oad / M.c.line = x) (hw : ¬ 0 ≤ whereF x S.log)
    (hc : chosenF M.c (M.c.ways.count (d : Int)) (x % M.c.sets) S.log = way) (hy : liesF M.c (x % M.c.sets) way S.log = y) (h0 : ¬ 0 ≤ y) :
    So.serve M d S t = S.told ⟨t, 1, 0, x, way, false, false, 0, 0⟩ := by
  unfold So.serve
  rw [hq]
  simp only [Int.toNat_natCast, ho, hx, hc, hy]
  rw [if_neg hw, if_neg h0]

/-- A domain owns 1, 2 or 4 ways. -/
theorem ways_small {c : Cf} (hc : chk c = 0) {d : Nat} (hd : (d : Int) < c.domains) : smallB (c.ways.count (d : Int) : Nat) = true := by
  have h := (chk_zero hc).2.1
  simp only [waysB, Bool.and_eq_true] at h
  exact allUpto_true h.2 d (by omega)
end Go.Proofs.YtehheaedbnfidaaGreat

namespace Go.Proofs.YtehheaedbnfidaaGreat

/-- What a core has stored or was handed changes nothing of what lies where in the far cache. -/
theorem whereF_far {x : Int} {e : Ent} {log : List Ent} (h1 : e.what ≠ 1) (h2 : e.what ≠ 2) : whereF x (e :: log) = whereF x log := by
  conv => lhs; unfold whereF
  rw [if_neg (by simp [h1]), if_neg (by simp [h2])]
theorem liesF_far {c : Cf} {set way : Int} {e : Ent} {log : List Ent} (h1 : e.what ≠ 1) (h2 : e.what ≠ 2) : liesF c set way (e :: log) = liesF c set way log := by
  conv => lhs; unfold liesF
  rw [if_neg (by simp [h1]), if_neg (by simp [h2])]
theorem emptyF_congr {c : Cf} {set : Int} {l l' : List Ent} (h : ∀ j, liesF c set j l' = liesF c set j l) : ∀ (n : Nat) (j : Int), emptyF c set l' n j = emptyF c set l n j
  | 0, _ => rfl
  | n + 1, j => by unfold emptyF; rw [h j, emptyF_congr h n (j + 1)]
theorem emptyF_far {c : Cf} {set : Int} {e : Ent} {log : List Ent} (h1 : e.what ≠ 1) (h2 : e.what ≠ 2) (n : Nat) (j : Int) : emptyF c set (e :: log) n j = emptyF c set log n j :=
  emptyF_congr (fun _ => liesF_far h1 h2) n j

theorem emptyF_ge {c : Cf} {set : Int} {log : List Ent} : ∀ (n : Nat) (j : Int), j ≤ emptyF c set log n j ∧ emptyF c set log n j ≤ j + n
  | 0, j => by unfold emptyF; omega
  | n + 1, j => by
    unfold emptyF
    by_cases h : liesF c set j log < 0
    · rw [if_pos h]; omega
    · rw [if_neg h]; have := emptyF_ge (c := c) (set := set) (log := log) n (j + 1); omega
/-- Where a way is empty, one is found. -/
theorem emptyF_le {c : Cf} {set : Int} {log : List Ent} : ∀ (n : Nat) (j i : Int), j ≤ i → i < j + n → liesF c set i log < 0 → emptyF c set log n j ≤ i
  | 0, j, i, h1, h2, _ => by omega
  | n + 1, j, i, h1, h2, h => by
    unfold emptyF
    by_cases g : liesF c set j log < 0
    · rw [if_pos g]; exact h1
    · rw [if_neg g]
      refine emptyF_le n (j + 1) i ?_ (by omega) h
      by_cases e : i = j
      · subst e; exact absurd h g
      · omega
theorem emptyF_is {c : Cf} {set : Int} {log : List Ent} : ∀ (n : Nat) (j : Int), emptyF c set log n j < j + n → liesF c set (emptyF c set log n j) log < 0
  | 0, j, h => by unfold emptyF at h; omega
  | n + 1, j, h => by
    unfold emptyF at h ⊢
    by_cases g : liesF c set j log < 0
    · rw [if_pos g]; exact g
    · rw [if_neg g] at h ⊢
      exact emptyF_is n (j + 1) (by omega)

theorem victim_bd (n : Int) (l : List Int) (hn : smallB n = true) : 0 ≤ victimZ n l ∧ victimZ n l < n := by
  rcases (small_iff n).1 hn with e | e | e
  · subst e; simp [victimZ]
  · subst e
    show 0 ≤ (if lowHit l 0 1 = true then (1 : Int) else 0) ∧ (if lowHit l 0 1 = true then (1 : Int) else 0) < 2
    split <;> omega
  · subst e
    show 0 ≤ (if lowHit l 0 2 = true then (if lowHit l 2 1 = true then (3 : Int) else 2) else (if lowHit l 0 1 = true then 1 else 0)) ∧ (if lowHit l 0 2 = true then (if lowHit l 2 1 = true then (3 : Int) else 2) else (if lowHit l 0 1 = true then 1 else 0)) < 4
    split <;> split <;> omega

theorem chosen_bd {c : Cf} {n : Nat} {set : Int} {log : List Ent} (hn : smallB (n : Int) = true) : 0 ≤ chosenF c n set log ∧ chosenF c n set log < n := by
  unfold chosenF
  have := emptyF_ge (c := c) (set := set) (log := log) n 0
  simp only
  split
  · omega
  · exact victim_bd _ _ hn

/-- The line that lies in a way of the set is of that set. -/
theorem lies_set {c : Cf} {set way : Int} : ∀ {log : List Ent}, 0 ≤ liesF c set way log → liesF c set way log % c.sets = set
  | [], h => by simp [liesF] at h
  | e :: r, h => by
    unfold liesF at h ⊢
    by_cases h1 : ((e.line % c.sets == set) && e.way == way && e.what == 1) = true
    · rw [if_pos h1]
      simp only [Bool.and_eq_true, beq_iff_eq] at h1
      exact h1.1.1
    · rw [if_neg h1] at h ⊢
      by_cases h2 : ((e.line % c.sets == set) && e.way == way && e.what == 2) = true
      · rw [if_pos h2] at h; omega
      · rw [if_neg h2] at h ⊢
        exact lies_set h

/-- How many services the first that waits still wants, at most. -/
def needF (M : MDat) (d : Nat) (S : So) : Nat :=
  match S.queue with
  | [] => 0
  | core :: _ =>
    let x := (opAt M d core.toNat S).2.1 / M.c.line
    if 0 ≤ whereF x S.log then 1
    else if emptyF M.c (x % M.c.sets) S.log (M.c.ways.count (d : Int)) 0 < (M.c.ways.count (d : Int) : Nat) then 2
    else 3

theorem need_le (M : MDat) (d : Nat) (S : So) : needF M d S ≤ 3 := by
  unfold needF
  split
  · omega
  · simp only
    split
    · omega
    · split <;> omega

theorem need_pos {M : MDat} {d : Nat} {S : So} (h : S.queue ≠ []) : 1 ≤ needF M d S := by
  unfold needF
  split
  · rename_i e; exact absurd e h
  · simp only
    split
    · omega
    · split <;> omega

theorem need_eq {M : MDat} {d k : Nat} {S : So} {q : List Int} {okd oad ovl : Int} (hq : S.queue = (k : Int) :: q) (ho : opAt M d k S = (okd, oad, ovl)) :
    needF M d S = if 0 ≤ whereF (oad / M.c.line) S.log then 1 else if emptyF M.c (oad / M.c.line % M.c.sets) S.log (M.c.ways.count (d : Int)) 0 < (M.c.ways.count (d : Int) : Nat) then 2 else 3 := by
  unfold needF
  rw [hq]
  simp only [Int.toNat_natCast, ho]

/-- A service: the first is done, if it wanted just one; else it wants one less. -/
theorem serve_need {M : MDat} {d : Nat} {S : So} {k : Nat} {q : List Int} {t : Int} (hc : chk M.c = 0) (hd : (d : Int) < M.c.domains) (hq : S.queue = (k : Int) :: q) :
    (needF M d S = 1 ∧ (So.serve M d S t).queue = q) ∨ (2 ≤ needF M d S ∧ (So.serve M d S t).queue = S.queue ∧ needF M d (So.serve M d S t) + 1 ≤ needF M d S ∧ (So.serve M d S t).began = S.began) := by
  rcases ho : opAt M d k S with ⟨okd, oad, ovl⟩
  have hsm := ways_small hc hd
  have hN : needF M d S = if 0 ≤ whereF (oad / M.c.line) S.log then 1 else if emptyF M.c (oad / M.c.line % M.c.sets) S.log (M.c.ways.count (d : Int)) 0 < (M.c.ways.count (d : Int) : Nat) then 2 else 3 := by
    unfold needF
    rw [hq]
    simp only [Int.toNat_natCast, ho]
  by_cases hw : 0 ≤ whereF (oad / M.c.line) S.log
  · left
    rw [hN, if_pos hw]
    refine ⟨rfl, ?_⟩
    by_cases hk : okd = 1
    · subst hk
      rw [serve_store hq ho rfl hw]
      rfl
    · rw [serve_load hq ho hk rfl hw]
      rfl
  · right
    rw [if_neg hw] at hN
    have hcb := chosen_bd (c := M.c) (set := oad / M.c.line % M.c.sets) (log := S.log) hsm
    obtain ⟨way, hcw⟩ : ∃ way, chosenF M.c (M.c.ways.count (d : Int)) (oad / M.c.line % M.c.sets) S.log = way := ⟨_, rfl⟩
    rw [hcw] at hcb
    obtain ⟨y, hy⟩ : ∃ y, liesF M.c (oad / M.c.line % M.c.sets) way S.log = y := ⟨_, rfl⟩
    by_cases he : emptyF M.c (oad / M.c.line % M.c.sets) S.log (M.c.ways.count (d : Int)) 0 < (M.c.ways.count (d : Int) : Nat)
    · rw [if_pos he] at hN
      have hwe : way = emptyF M.c (oad / M.c.line % M.c.sets) S.log (M.c.ways.count (d : Int)) 0 := by
        rw [← hcw]; unfold chosenF; simp only [he, if_true]
      have hy0 : y < 0 := by
        rw [← hy, hwe]
        exact emptyF_is _ 0 (by omega)
      rw [serve_fill hq ho rfl hw hcw hy (by omega), hN]
      refine ⟨by omega, rfl, ?_, rfl⟩
      have : needF M d (S.told ⟨t, 1, 0, oad / M.c.line, way, false, false, 0, 0⟩) = 1 := by
        rw [need_eq (S := S.told ⟨t, 1, 0, oad / M.c.line, way, false, false, 0, 0⟩) (show S.queue = _ from hq) (show opAt M d k S = _ from ho)]
        refine if_pos ?_
        simp only [So.told, whereF]
        simp
        exact hcb.1
      omega
    · rw [if_neg he] at hN
      have hy0 : 0 ≤ y := by
        have : ¬ y < 0 := fun hh => by
          have := emptyF_le (c := M.c) (set := oad / M.c.line % M.c.sets) (log := S.log) (M.c.ways.count (d : Int)) 0 way hcb.1 (by omega) (by rw [hy]; exact hh)
          omega
        omega
      cases hm : markedF y S.log with
      | true =>
        rw [serve_gone hq ho rfl hw hcw hy hy0 hm, hN]
        refine ⟨by omega, rfl, ?_, rfl⟩
        have : needF M d (S.told ⟨t, 2, 0, y, way, false, false, 0, 0⟩) ≤ 2 := by
          rw [need_eq (S := S.told ⟨t, 2, 0, y, way, false, false, 0, 0⟩) (show S.queue = _ from hq) (show opAt M d k S = _ from ho)]
          split
          · omega
          · have hs := lies_set (c := M.c) (set := oad / M.c.line % M.c.sets) (way := way) (log := S.log) (by rw [hy]; exact hy0)
            rw [hy] at hs
            have hl : liesF M.c (oad / M.c.line % M.c.sets) way (S.told ⟨t, 2, 0, y, way, false, false, 0, 0⟩).log < 0 := by
              simp only [So.told, liesF, hs]
              simp
            have := emptyF_le (c := M.c) (set := oad / M.c.line % M.c.sets) (M.c.ways.count (d : Int)) 0 way hcb.1 (by omega) hl
            rw [if_pos (show emptyF M.c (oad / M.c.line % M.c.sets) (S.told ⟨t, 2, 0, y, way, false, false, 0, 0⟩).log (M.c.ways.count (d : Int)) 0 < (M.c.ways.count (d : Int) : Nat) by omega)]
            omega
        omega
      | false =>
        rw [serve_both hq ho rfl hw hcw hy hy0 hm, hN]
        refine ⟨by omega, rfl, ?_, rfl⟩
        have : needF M d ((S.told ⟨t, 2, 0, y, way, false, false, 0, 0⟩).told ⟨t, 1, 0, oad / M.c.line, way, false, false, 0, 0⟩) = 1 := by
          rw [need_eq (S := (S.told ⟨t, 2, 0, y, way, false, false, 0, 0⟩).told ⟨t, 1, 0, oad / M.c.line, way, false, false, 0, 0⟩) (show S.queue = _ from hq) (show opAt M d k S = _ from ho)]
          refine if_pos ?_
          simp only [So.told, whereF]
          simp
          exact hcb.1
        omega
end Go.Proofs.YtehheaedbnfidaaGreat

namespace Go.Proofs.YtehheaedbnfidaaGreat

/-- A round of the table, in cycles. -/
def perZ (c : Cf) : Int := (c.slots.length : Int) * c.slot

theorem firstF_le {p : Int → Bool} : ∀ (n : Nat) (u m : Int), u ≤ m → m < u + n → p m = true → firstF p n u ≤ m
  | 0, u, m, h1, h2, _ => by omega
  | n + 1, u, m, h1, h2, h3 => by
    unfold firstF
    by_cases e : p u = true
    · rw [if_pos e]; exact h1
    · rw [if_neg e]
      refine firstF_le n (u + 1) m ?_ (by omega) h3
      by_cases e2 : m = u
      · subst e2; exact absurd h3 e
      · omega

theorem per_pos {c : Cf} (hc : chk c = 0) : 1 ≤ perZ c := by
  have R := right_of hc
  have := Int.mul_le_mul (show (1 : Int) ≤ (c.slots.length : Int) by have := R.t1; omega) R.s1 (by omega) (by omega)
  unfold perZ
  omega

theorem wait_bd {c : Cf} {d : Nat} {t : Int} (hc : chk c = 0) (hd : (d : Int) < c.domains) (t0 : 0 ≤ t) : t ≤ waitZ c d t ∧ waitZ c d t < t + perZ c ∧ servesB c d (waitZ c d t) = true := by
  have R := right_of hc
  obtain ⟨n, rfl⟩ := Int.eq_ofNat_of_zero_le t0
  have hs := R.s1
  have hcnt := serves_count c d hs n
  have hpos := owns_slot (chk_zero hc).2.2.1 (d := (d : Int)) (by omega) hd
  have e : ((c.slots.length : Int) * c.slot).toNat = c.slots.length * c.slot.toNat := by
    have : (c.slots.length : Int) * c.slot = ((c.slots.length * c.slot.toNat : Nat) : Int) := by
      rw [Int.natCast_mul, Int.toNat_of_nonneg (by omega)]
    rw [this, Int.toNat_natCast]
  obtain ⟨h1, h2, h3, _⟩ := firstF_spec (p := servesB c d) (c.slots.length * c.slot.toNat) (n : Int) (by omega)
  unfold waitZ
  rw [e]
  refine ⟨h1, ?_, h3⟩
  have p1 := per_pos hc
  unfold perZ at p1 ⊢
  omega

theorem wait_le {c : Cf} {d : Nat} {t m : Int} (hc : chk c = 0) (h1 : t ≤ m) (h2 : m < t + perZ c) (h3 : servesB c d m = true) : waitZ c d t ≤ m := by
  unfold waitZ
  have p1 := per_pos hc
  unfold perZ at h2 p1
  exact firstF_le _ _ _ h1 (by rw [Int.toNat_of_nonneg (by omega)]; exact h2) h3

theorem serves_per {c : Cf} {d : Nat} (hc : chk c = 0) (t : Int) : servesB c d (t + perZ c) = servesB c d t := by
  have R := right_of hc
  have := serves_period c d R.s1 t
  have e : ((c.slots.length * c.slot.toNat : Nat) : Int) = (c.slots.length : Int) * c.slot := by
    rw [Int.natCast_mul, Int.toNat_of_nonneg (by have := R.s1; omega)]
  rw [e] at this
  exact this

theorem wait_here {c : Cf} {d : Nat} {t : Int} (hc : chk c = 0) (h : servesB c d t = true) : waitZ c d t ≤ t ∧ waitZ c d (t + 1) ≤ t + perZ c := by
  have p1 := per_pos hc
  exact ⟨wait_le hc (Int.le_refl _) (by omega) h, wait_le hc (by omega) (by omega) (by rw [serves_per hc]; exact h)⟩

theorem wait_on {c : Cf} {d : Nat} {t : Int} (hc : chk c = 0) (hd : (d : Int) < c.domains) (t0 : 0 ≤ t) (h : servesB c d t = false) : waitZ c d (t + 1) ≤ waitZ c d t := by
  obtain ⟨h1, h2, h3⟩ := wait_bd (d := d) hc hd t0
  refine wait_le hc ?_ (by omega) h3
  by_cases e : waitZ c d t = t
  · rw [e, h] at h3; exact absurd h3 (by simp)
  · omega

/-- Each that waits will be done in time. -/
def DueOk (M : MDat) (d : Nat) (S : So) (t : Int) : Prop := ∀ p k : Nat, S.queue[p]? = some (k : Int) → waitZ M.c d t + (3 * (p : Int) + needF M d S - 1) * perZ M.c ≤ S.began.getD k 0 + worstZ M.c

theorem done_began (S : So) (k : Nat) (t v f : Int) : (S.done k t v f).began = S.began := rfl

theorem serve_began {M : MDat} {d : Nat} {S : So} {t : Int} : (So.serve M d S t).began = S.began := by
  unfold So.serve
  cases hq : S.queue with
  | nil => rfl
  | cons q r =>
    simp only
    split
    · split <;> rfl
    · split
      · split <;> rfl
      · rfl

theorem due_service {M : MDat} {d : Nat} {S : So} {B : Nat} {t : Int} (hs : SoOk M d S B) (hc : chk M.c = 0) (hd : (d : Int) < M.c.domains) (t0 : 0 ≤ t) (h : DueOk M d S t) : DueOk M d (So.service M d S t) (t + 1) := by
  have p1 := per_pos hc
  unfold So.service
  by_cases c1 : servesB M.c d t = true
  · rw [if_pos c1]
    obtain ⟨w1, w2⟩ := wait_here hc c1
    obtain ⟨w3, _, _⟩ := wait_bd (d := d) hc hd t0
    cases hq : S.queue with
    | nil =>
      intro p k hp
      have : (So.serve M d S t).queue = [] := by unfold So.serve; rw [hq]; exact hq
      rw [this] at hp
      simp at hp
    | cons q r =>
      obtain ⟨k0, rfl, _, _⟩ := hs.qu q (by rw [hq]; exact List.mem_cons_self ..)
      intro p k hp
      rw [serve_began]
      rcases serve_need (t := t) hc hd hq with ⟨n1, n2⟩ | ⟨n1, n2, n3, _⟩
      · rw [n2] at hp
        have := h (p + 1) k (by rw [hq]; exact hp)
        rw [n1] at this
        have n4 := need_le M d (So.serve M d S t)
        have m1 : (3 * (p : Int) + needF M d (So.serve M d S t) - 1) * perZ M.c ≤ (3 * (p : Int) + 2) * perZ M.c := Int.mul_le_mul_of_nonneg_right (by omega) (by omega)
        have m2 : (3 * ((p + 1 : Nat) : Int) + ((1 : Nat) : Int) - 1) * perZ M.c = (3 * (p : Int) + 2) * perZ M.c + perZ M.c := by
          rw [show 3 * ((p + 1 : Nat) : Int) + ((1 : Nat) : Int) - 1 = (3 * (p : Int) + 2) + 1 by omega, Int.add_mul _ 1, Int.one_mul]
        omega
      · rw [n2] at hp
        have := h p k hp
        have m1 : (3 * (p : Int) + needF M d (So.serve M d S t) - 1) * perZ M.c ≤ (3 * (p : Int) + needF M d S - 2) * perZ M.c := Int.mul_le_mul_of_nonneg_right (by omega) (by omega)
        have m2 : (3 * (p : Int) + needF M d S - 1) * perZ M.c = (3 * (p : Int) + needF M d S - 2) * perZ M.c + perZ M.c := by
          rw [show 3 * (p : Int) + (needF M d S : Int) - 1 = (3 * (p : Int) + needF M d S - 2) + 1 by omega, Int.add_mul _ 1, Int.one_mul]
        omega
  · rw [if_neg c1]
    have c1' : servesB M.c d t = false := by simpa using c1
    have := wait_on (d := d) hc hd t0 c1'
    intro p k hp
    have := h p k hp
    omega

/-- What a step leaves of what waits. -/
structure Same (M : MDat) (d : Nat) (S S' : So) : Prop where
  q : S'.queue = S.queue
  w : ∀ x, whereF x S'.log = whereF x S.log
  l : ∀ set way, liesF M.c set way S'.log = liesF M.c set way S.log
  o : ∀ k : Nat, (k : Int) ∈ S.queue → opAt M d k S' = opAt M d k S
  b : ∀ k : Nat, (k : Int) ∈ S.queue → S'.began.getD k 0 = S.began.getD k 0

theorem Same.need {M : MDat} {d : Nat} {S S' : So} {B : Nat} (h : Same M d S S') (hs : SoOk M d S B) : needF M d S' = needF M d S := by
  cases hq : S.queue with
  | nil =>
    unfold needF
    rw [h.q, hq]
  | cons q r =>
    obtain ⟨k, rfl, _, _⟩ := hs.qu q (by rw [hq]; exact List.mem_cons_self ..)
    rcases ho : opAt M d k S with ⟨okd, oad, ovl⟩
    rw [need_eq hq ho, need_eq (show S'.queue = _ by rw [h.q, hq]) (show opAt M d k S' = _ by rw [h.o k (by rw [hq]; exact List.mem_cons_self ..), ho])]
    rw [h.w, emptyF_congr (fun j => h.l _ j)]

theorem Same.due {M : MDat} {d : Nat} {S S' : So} {B : Nat} {t : Int} (h : Same M d S S') (hs : SoOk M d S B) (hd : DueOk M d S t) : DueOk M d S' t := by
  intro p k hp
  rw [h.q] at hp
  rw [h.need hs, h.b k (List.mem_of_getElem? hp)]
  exact hd p k hp

/-- What waits is less than the cores. -/
theorem queue_len {M : MDat} {d : Nat} {S : So} {B k : Nat} (hs : SoOk M d S B) (hc : chk M.c = 0) (hk : k < M.c.cores.toNat) (hn : (k : Int) ∉ S.queue) : (S.queue.length : Int) + 1 ≤ M.c.cores := by
  have c2 := (right_of hc).c2
  have hq : ∀ q ∈ S.queue, 0 ≤ q ∧ q < M.c.cores ∧ q ≠ k := fun q hq => by
    obtain ⟨j, e1, e2, _⟩ := hs.qu q hq
    exact ⟨by omega, by omega, fun e => by subst e; exact hn hq⟩
  have hnd := hs.nd
  generalize S.queue = l at *
  match l, hq, hnd with
  | [], _, _ => simp; omega
  | [a], hq, _ =>
    have := hq a (by simp)
    simp
    omega
  | [a, b], hq, hnd =>
    have h1 := hq a (by simp)
    have h2 := hq b (by simp)
    simp at hnd
    simp
    omega
  | a :: b :: e :: r, hq, hnd =>
    have h1 := hq a (by simp)
    have h2 := hq b (by simp)
    have h3 := hq e (by simp)
    simp at hnd
    omega
end Go.Proofs.YtehheaedbnfidaaGreat

namespace Go.Proofs.YtehheaedbnfidaaGreat

theorem worst_per (c : Cf) : worstZ c = 3 * c.cores * perZ c := by
  unfold worstZ perZ
  rw [Int.mul_assoc (3 * c.cores)]

theorem not_waiting {M : MDat} {d : Nat} {S : So} {B k : Nat} (hs : SoOk M d S B) (h : S.how.getD k 0 ≠ 1) : (k : Int) ∉ S.queue := fun hq => by
  obtain ⟨j, e1, _, e3⟩ := hs.qu _ hq
  have : k = j := by omega
  subst this
  exact h e3

theorem same_done {M : MDat} {d : Nat} {S : So} {k : Nat} {t v f : Int} (hn : (k : Int) ∉ S.queue) : Same M d S (S.done k t v f) := by
  refine ⟨rfl, fun _ => rfl, fun _ _ => rfl, fun j hj => ?_, fun _ _ => rfl⟩
  have e : j ≠ k := fun e => by subst e; exact hn hj
  unfold opAt So.done
  simp only
  rw [getD_set_ne e]

theorem same_began {M : MDat} {d : Nat} {S : So} {k : Nat} {t : Int} (hn : (k : Int) ∉ S.queue) : Same M d S { S with began := S.began.set k t } :=
  ⟨rfl, fun _ => rfl, fun _ _ => rfl, fun _ _ => rfl, fun j hj => getD_set_ne (fun e => by subst e; exact hn hj)⟩

theorem same_told {M : MDat} {d : Nat} {S : So} {e : Ent} (h1 : e.what ≠ 1) (h2 : e.what ≠ 2) : Same M d S (S.told e) :=
  ⟨rfl, fun _ => whereF_far h1 h2, fun _ _ => liesF_far h1 h2, fun _ _ => rfl, fun _ _ => rfl⟩

theorem Same.trans {M : MDat} {d : Nat} {a b c : So} (h : Same M d a b) (k : Same M d b c) : Same M d a c :=
  ⟨k.q.trans h.q, fun x => (k.w x).trans (h.w x), fun s y => (k.l s y).trans (h.l s y), fun j hj => (k.o j (by rw [h.q]; exact hj)).trans (h.o j hj), fun j hj => (k.b j (by rw [h.q]; exact hj)).trans (h.b j hj)⟩

theorem due_begin {M : MDat} {d : Nat} {S : So} {B k : Nat} {t : Int} (hs : SoOk M d S B) (hc : chk M.c = 0) (hd : (d : Int) < M.c.domains) (hk : k < M.c.cores.toNat) (h0 : S.how.getD k 0 = 0) (t0 : 0 ≤ t) (h : DueOk M d S (t + 1)) : DueOk M d (So.begin M d k S t) (t + 1) := by
  have nq := not_waiting hs (k := k) (by omega)
  have sb := same_began (M := M) (d := d) (S := S) (k := k) (t := t) nq
  have kb : k < S.began.length := by rw [hs.bl]; exact hk
  unfold So.begin
  by_cases c1 : faultF M.c (opAt M d k S) ≠ 0
  · simp only [if_pos c1]
    exact Same.due (S := S) (S' := { S with began := S.began.set k t, how := S.how.set k 2 }) ⟨rfl, fun _ => rfl, fun _ _ => rfl, fun _ _ => rfl, sb.b⟩ hs h
  · simp only [if_neg c1]
    by_cases c2 : stateF M.c k ((opAt M d k S).2.1 / M.c.line) t false S.log = 0 ∨ ((opAt M d k S).1 = 1 ∧ stateF M.c k ((opAt M d k S).2.1 / M.c.line) t false S.log = 1)
    · simp only [if_pos c2]
      intro p j hp
      simp only at hp ⊢
      by_cases hl : p < S.queue.length
      · rw [List.getElem?_append_left hl] at hp
        have hm := List.mem_of_getElem? hp
        have hb := sb.b j hm
        simp only at hb
        rw [hb]
        have hn : needF M d { S with began := S.began.set k t, how := S.how.set k 1, queue := S.queue ++ [(k : Int)] } = needF M d S := by
          cases hq : S.queue with
          | nil => rw [hq] at hl; simp at hl
          | cons q r =>
            obtain ⟨i, rfl, _, _⟩ := hs.qu q (by rw [hq]; exact List.mem_cons_self ..)
            rcases ho : opAt M d i S with ⟨okd, oad, ovl⟩
            rw [need_eq hq ho]
            exact need_eq (q := r ++ [(k : Int)]) rfl (show opAt M d i S = _ from ho)
        have := h p j hp
        rw [hn]
        exact this
      · rw [List.getElem?_append_right (by omega)] at hp
        have hpk : p = S.queue.length ∧ (k : Int) = j := by
          by_cases e : p - S.queue.length = 0
          · rw [e] at hp; simp at hp; omega
          · rw [List.getElem?_eq_none (by simp; omega)] at hp; simp at hp
        obtain ⟨e1, e2⟩ := hpk
        have e3 : k = j := by omega
        subst e3
        rw [getD_set kb, if_pos rfl]
        have hlen := queue_len hs hc hk nq
        have p1 := per_pos hc
        obtain ⟨_, w2, _⟩ := wait_bd (d := d) (t := t + 1) hc hd (by omega)
        have n4 := need_le M d { S with began := S.began.set k t, how := S.how.set k 1, queue := S.queue ++ [(k : Int)] }
        generalize needF M d { S with began := S.began.set k t, how := S.how.set k 1, queue := S.queue ++ [(k : Int)] } = nn at *
        have m1 : (3 * (p : Int) + nn - 1) * perZ M.c ≤ (3 * M.c.cores - 1) * perZ M.c := Int.mul_le_mul_of_nonneg_right (by omega) (by omega)
        have m2 : 3 * M.c.cores * perZ M.c = (3 * M.c.cores - 1) * perZ M.c + perZ M.c := by
          rw [show 3 * M.c.cores = (3 * M.c.cores - 1) + 1 by omega, Int.add_mul _ 1, Int.one_mul]
          rw [show 3 * M.c.cores - 1 + 1 - 1 = 3 * M.c.cores - 1 by omega]
        rw [worst_per]
        omega
    · simp only [if_neg c2]
      by_cases c3 : (opAt M d k S).1 = 1
      · simp only [if_pos c3]
        exact Same.due ((sb.trans (same_told (by simp) (by simp))).trans (same_done nq)) hs h
      · simp only [if_neg c3]
        exact Same.due (sb.trans (same_done nq)) hs h

theorem due_works {M : MDat} {d : Nat} {S : So} {B k : Nat} {t : Int} (hs : SoOk M d S B) (hc : chk M.c = 0) (hd : (d : Int) < M.c.domains) (hk : k < M.c.cores.toNat) (t0 : 0 ≤ t) (h : DueOk M d S (t + 1)) : DueOk M d (So.works M d k S t) (t + 1) := by
  unfold So.works
  by_cases c1 : S.how.getD k 0 = 2 ∧ t = S.began.getD k 0 + 2
  · rw [if_pos c1]
    exact (same_done (not_waiting hs (by omega))).due hs h
  · rw [if_neg c1]
    by_cases c2 : S.how.getD k 0 ≠ 0 ∨ t < S.free.getD k 0 ∨ ((progF M d k).length : Int) ≤ S.next.getD k 0 ∨ openB M.c k d t = false
    · rw [if_pos c2]; exact h
    · rw [if_neg c2]
      exact due_begin hs hc hd hk (by omega) t0 h

theorem due_worksAll {M : MDat} {d : Nat} {t : Int} (hc : chk M.c = 0) (hd : (d : Int) < M.c.domains) (t0 : 0 ≤ t) (t1 : t ≤ 10000) : ∀ (n j : Nat) {S : So} {B : Nat}, SoOk M d S B → j + n ≤ M.c.cores.toNat → DueOk M d S (t + 1) → DueOk M d (So.worksAll M d t n j S) (t + 1)
  | 0, _, _, _, _, _, h => h
  | n + 1, j, S, B, hs, hj, h => due_worksAll hc hd t0 t1 n (j + 1) (hs.works hc (by omega : j < _) t0 t1) (by omega) (due_works hs hc hd (by omega) t0 h)

theorem due_cycle {M : MDat} {d : Nat} {S : So} {B : Nat} {t : Int} (hs : SoOk M d S B) (hc : chk M.c = 0) (hd : (d : Int) < M.c.domains) (t0 : 0 ≤ t) (t1 : t ≤ 10000) (h : DueOk M d S t) : DueOk M d (So.cycle M d S t) (t + 1) :=
  due_worksAll hc hd t0 t1 _ 0 (hs.service hc t0 t1) (by omega) (due_service hs hc hd t0 h)

theorem due_upto {M : MDat} {d : Nat} (hc : chk M.c = 0) (hd : (d : Int) < M.c.domains) : ∀ (T : Nat), T ≤ 10000 → DueOk M d (So.upto M d T) T
  | 0, _ => fun p k hp => by simp [So.upto, So.start] at hp
  | t + 1, h => due_cycle (SoOk.upto (d := d) hc t (by omega)) hc hd (by omega) (by omega) (due_upto hc hd t (by omega))

/-- Who gets its last service in the cycle t began at most W cycles ago. -/
theorem served_in_time {M : MDat} {d : Nat} {T k : Nat} {q : List Int} (hc : chk M.c = 0) (hd : (d : Int) < M.c.domains) (hT : T ≤ 10000) (hq : (So.upto M d T).queue = (k : Int) :: q) : (T : Int) ≤ (So.upto M d T).began.getD k 0 + worstZ M.c := by
  have h := due_upto hc hd T hT 0 k (by rw [hq]; rfl)
  obtain ⟨w1, _, _⟩ := wait_bd (d := d) (t := (T : Int)) hc hd (by omega)
  have p1 := per_pos hc
  have n1 := need_pos (M := M) (d := d) (S := So.upto M d T) (by rw [hq]; simp)
  have m1 : 0 ≤ (3 * ((0 : Nat) : Int) + needF M d (So.upto M d T) - 1) * perZ M.c := Int.mul_nonneg (by omega) (by omega)
  omega
end Go.Proofs.YtehheaedbnfidaaGreat

namespace Go.Proofs.YtehheaedbnfidaaGreat

/-- What is under way began in an open cycle; who waits stands in the queue. -/
def Under (M : MDat) (d : Nat) (S : So) (t : Int) : Prop := ∀ k, k < M.c.cores.toNat → S.how.getD k 0 ≠ 0 → openB M.c k d (S.began.getD k 0) = true ∧ S.began.getD k 0 ≤ t ∧ (S.how.getD k 0 = 1 → (k : Int) ∈ S.queue)

theorem Under.mono {M : MDat} {d : Nat} {S : So} {t u : Int} (h : Under M d S t) (hu : t ≤ u) : Under M d S u := fun k hk hh => by
  obtain ⟨h1, h2, h3⟩ := h k hk hh
  exact ⟨h1, by omega, h3⟩

/-- What is under way at k is done; k waits no longer. -/
theorem Under.done {M : MDat} {d : Nat} {S S' : So} {k : Nat} {t u v f : Int} (h : Under M d S t) (h1 : S'.how = S.how) (h2 : S'.began = S.began) (h3 : ∀ q ∈ S.queue, q ≠ (k : Int) → q ∈ S'.queue) (hk : k < S.how.length) : Under M d (S'.done k u v f) t := by
  intro j hj hh
  have e : (S'.done k u v f).how.getD j 0 = if j = k then 0 else S.how.getD j 0 := by
    show (S'.how.set k 0).getD j 0 = _
    rw [h1, getD_set hk]
  rw [e] at hh ⊢
  by_cases g : j = k
  · rw [if_pos g] at hh; exact absurd rfl hh
  · rw [if_neg g] at hh ⊢
    obtain ⟨a1, a2, a3⟩ := h j hj hh
    have e2 : (S'.done k u v f).began = S.began := h2
    rw [e2]
    exact ⟨a1, a2, fun h5 => h3 _ (a3 h5) (by omega)⟩

theorem under_serve {M : MDat} {d : Nat} {S : So} {B : Nat} {t u : Int} (hs : SoOk M d S B) (h : Under M d S u) : Under M d (So.serve M d S t) u := by
  unfold So.serve
  cases hq : S.queue with
  | nil => exact h
  | cons q r =>
    obtain ⟨k, rfl, hk, _⟩ := hs.qu q (by rw [hq]; exact List.mem_cons_self ..)
    have kh : k < S.how.length := by rw [hs.hl]; exact hk
    have hpop : ∀ x ∈ S.queue, x ≠ (k : Int) → x ∈ r := fun x hx hne => by
      rw [hq] at hx
      rcases List.mem_cons.1 hx with e | e
      · exact absurd e hne
      · exact e
    simp only [Int.toNat_natCast]
    split
    · split
      · exact Under.done h rfl rfl hpop kh
      · exact Under.done h rfl rfl hpop kh
    · split
      · split
        · exact h
        · exact h
      · exact h

theorem under_service {M : MDat} {d : Nat} {S : So} {B : Nat} {t u : Int} (hs : SoOk M d S B) (h : Under M d S u) : Under M d (So.service M d S t) u := by
  unfold So.service
  by_cases c1 : servesB M.c d t = true
  · rw [if_pos c1]; exact under_serve hs h
  · rw [if_neg c1]; exact h

theorem under_begin {M : MDat} {d : Nat} {S : So} {B k : Nat} {t : Int} (hs : SoOk M d S B) (hk : k < M.c.cores.toNat) (h0 : S.how.getD k 0 = 0) (ho : openB M.c k d t = true) (h : Under M d S t) : Under M d (So.begin M d k S t) t := by
  have kh : k < S.how.length := by rw [hs.hl]; exact hk
  have kb : k < S.began.length := by rw [hs.bl]; exact hk
  have other : ∀ j, j < M.c.cores.toNat → j ≠ k → S.how.getD j 0 ≠ 0 → openB M.c j d ((S.began.set k t).getD j 0) = true ∧ (S.began.set k t).getD j 0 ≤ t ∧ (S.how.getD j 0 = 1 → (j : Int) ∈ S.queue) := fun j hj hne hh => by
    rw [getD_set_ne hne]
    exact h j hj hh
  have hb : Under M d { S with began := S.began.set k t } t := fun j hj hh => by
    by_cases e : j = k
    · subst e; exact absurd h0 hh
    · exact other j hj e hh
  unfold So.begin
  by_cases c1 : faultF M.c (opAt M d k S) ≠ 0
  · simp only [if_pos c1]
    intro j hj hh
    simp only at hh ⊢
    rw [getD_set kh] at hh ⊢
    by_cases e : j = k
    · subst e
      rw [if_pos rfl, getD_set kb, if_pos rfl]
      exact ⟨ho, Int.le_refl _, fun h5 => by omega⟩
    · rw [if_neg e] at hh ⊢
      exact other j hj e hh
  · simp only [if_neg c1]
    by_cases c2 : stateF M.c k ((opAt M d k S).2.1 / M.c.line) t false S.log = 0 ∨ ((opAt M d k S).1 = 1 ∧ stateF M.c k ((opAt M d k S).2.1 / M.c.line) t false S.log = 1)
    · simp only [if_pos c2]
      intro j hj hh
      simp only at hh ⊢
      rw [getD_set kh] at hh ⊢
      by_cases e : j = k
      · subst e
        rw [if_pos rfl, getD_set kb, if_pos rfl]
        exact ⟨ho, Int.le_refl _, fun _ => List.mem_append.2 (Or.inr (by simp))⟩
      · rw [if_neg e] at hh ⊢
        obtain ⟨a1, a2, a3⟩ := other j hj e hh
        exact ⟨a1, a2, fun h5 => List.mem_append.2 (Or.inl (a3 h5))⟩
    · simp only [if_neg c2]
      by_cases c3 : (opAt M d k S).1 = 1
      · simp only [if_pos c3]
        exact Under.done hb rfl rfl (fun _ hq _ => hq) kh
      · simp only [if_neg c3]
        exact Under.done hb rfl rfl (fun _ hq _ => hq) kh

theorem under_works {M : MDat} {d : Nat} {S : So} {B k : Nat} {t : Int} (hs : SoOk M d S B) (hk : k < M.c.cores.toNat) (h : Under M d S t) : Under M d (So.works M d k S t) t := by
  unfold So.works
  by_cases c1 : S.how.getD k 0 = 2 ∧ t = S.began.getD k 0 + 2
  · rw [if_pos c1]
    exact Under.done h rfl rfl (fun _ hq _ => hq) (by rw [hs.hl]; exact hk)
  · rw [if_neg c1]
    by_cases c2 : S.how.getD k 0 ≠ 0 ∨ t < S.free.getD k 0 ∨ ((progF M d k).length : Int) ≤ S.next.getD k 0 ∨ openB M.c k d t = false
    · rw [if_pos c2]; exact h
    · rw [if_neg c2]
      refine under_begin hs hk (by omega) ?_ h
      cases ho : openB M.c k d t with
      | true => rfl
      | false => exact absurd (Or.inr (Or.inr (Or.inr ho))) c2

theorem under_worksAll {M : MDat} {d : Nat} {t : Int} (hc : chk M.c = 0) (t0 : 0 ≤ t) (t1 : t ≤ 10000) : ∀ (n j : Nat) {S : So} {B : Nat}, SoOk M d S B → j + n ≤ M.c.cores.toNat → Under M d S t → Under M d (So.worksAll M d t n j S) t
  | 0, _, _, _, _, _, h => h
  | n + 1, j, S, B, hs, hj, h => under_worksAll hc t0 t1 n (j + 1) (hs.works hc (by omega : j < _) t0 t1) (by omega) (under_works hs (by omega) h)

theorem under_upto {M : MDat} {d : Nat} (hc : chk M.c = 0) : ∀ (T : Nat), T ≤ 10000 → Under M d (So.upto M d T) T
  | 0, _ => fun k _ h => by
    have z : (List.replicate M.c.cores.toNat (0 : Int)).getD k 0 = 0 := by
      rw [List.getD_eq_getElem?_getD, List.getElem?_replicate]; split <;> rfl
    exact absurd z h
  | t + 1, h => by
    have hs := SoOk.upto (M := M) (d := d) hc t (by omega)
    have h1 := under_service (t := (t : Int)) hs (under_upto hc t (by omega))
    have h2 := under_worksAll hc (by omega) (by omega) M.c.cores.toNat 0 (hs.service hc (by omega) (by omega)) (by omega) h1
    exact h2.mono (by omega)

/-- What is under way at the time T: the turn is its domain's still, and no flush has come. -/
theorem under_turn {M : MDat} {d T k : Nat} (hc : chk M.c = 0) (hd : (d : Int) < M.c.domains) (hT : T ≤ 10000) (hk : k < M.c.cores.toNat) (hh : (So.upto M d T).how.getD k 0 ≠ 0) :
    (T : Int) ≤ (So.upto M d T).began.getD k 0 + worstZ M.c ∧ turnIs M.c k d ((T : Int) / M.c.quantum) = true ∧ (T : Int) % M.c.quantum < M.c.quantum - M.c.flush := by
  obtain ⟨u1, u2, u3⟩ := under_upto (d := d) hc T hT k hk hh
  have hs := SoOk.upto (M := M) (d := d) hc T hT
  have R := right_of hc
  have w0 := R.w0
  have q1 := R.q1
  have f1 := R.f1
  have hw3 : 3 ≤ worstZ M.c := by
    rw [worst_per]
    have := per_pos hc
    have := Int.mul_le_mul (show (3 : Int) ≤ 3 * M.c.cores by have := R.c1; omega) (per_pos hc) (by omega) (by have := R.c1; omega)
    omega
  have hle : (T : Int) ≤ (So.upto M d T).began.getD k 0 + worstZ M.c := by
    rcases hs.hw k hk with e | ⟨e | e, _⟩
    · exact absurd e hh
    · obtain ⟨p, hp, hpe⟩ := List.getElem_of_mem (u3 e)
      have hp2 : (So.upto M d T).queue[p]? = some (k : Int) := by rw [List.getElem?_eq_getElem hp, hpe]
      have := due_upto hc hd T hT p k hp2
      obtain ⟨w1, _, _⟩ := wait_bd (d := d) (t := (T : Int)) hc hd (by omega)
      have p1 := per_pos hc
      have n1 := need_pos (M := M) (d := d) (S := So.upto M d T) (fun e => by rw [e] at hp; simp at hp)
      have m1 : 0 ≤ (3 * (p : Int) + needF M d (So.upto M d T) - 1) * perZ M.c := Int.mul_nonneg (by omega) (by omega)
      omega
    · have := fail_upto (d := d) hc T hT k hk e
      omega
  have hb0 := (hs.bg k hk).1
  generalize (So.upto M d T).began.getD k 0 = b at *
  have o1 := open_turn u1
  have o2 : b % M.c.quantum < M.c.quantum - M.c.flush - worstZ M.c := by
    unfold openB at u1
    simp only [Bool.and_eq_true, decide_eq_true_eq] at u1
    exact u1.2
  have e1 := Int.mul_ediv_add_emod b M.c.quantum
  have s0 := Int.emod_nonneg b (show M.c.quantum ≠ 0 by omega)
  have l1 : (T : Int) / M.c.quantum = b / M.c.quantum := by
    refine Int.le_antisymm ?_ (Int.ediv_le_ediv (by omega) u2)
    have : (T : Int) < (b / M.c.quantum + 1) * M.c.quantum := by
      rw [Int.add_mul, Int.one_mul, Int.mul_comm]
      omega
    have := Int.ediv_lt_of_lt_mul (show 0 < M.c.quantum by omega) this
    omega
  have e2 := Int.mul_ediv_add_emod (T : Int) M.c.quantum
  rw [l1] at e2
  refine ⟨hle, by rw [l1]; exact o1.1, by omega⟩
end Go.Proofs.YtehheaedbnfidaaGreat

namespace Go.Proofs.YtehheaedbnfidaaGreat

/-- How many of the events are of the core k. -/
def seenF (k : Nat) (evs : List Ev) : Nat := (evs.filter fun e => e.core == (k : Int)).length
def opOf (M : MDat) (d : Nat) (e : Ev) : OpT := (progF M d e.core.toNat).getD e.index.toNat (0, 0, 0)
/-- What an operation makes of the words. -/
def updF (c : Cf) (o : OpT) (g : Int → Int) : Int → Int := fun a => if faultF c o = 0 ∧ o.1 = 1 ∧ o.2.1 = a then o.2.2 else g a
def replay (M : MDat) (d : Nat) (evs : List Ev) : Int → Int := evs.foldl (fun g e => updF M.c (opOf M d e) g) (firstF0 M d)

/-- The next event of a domain: the next operation of its core; a Load gives what was stored last. -/
def GoodEv (M : MDat) (d : Nat) (evs : List Ev) (e : Ev) : Prop :=
  ∃ k : Nat, e.core = k ∧ k < M.c.cores.toNat ∧ e.index = seenF k evs ∧ seenF k evs < (progF M d k).length ∧
    (faultF M.c (opOf M d e) ≠ 0 → e.fault = faultF M.c (opOf M d e) ∧ e.value = 0) ∧
    (faultF M.c (opOf M d e) = 0 → e.fault = 0 ∧ e.value = if (opOf M d e).1 = 1 then (opOf M d e).2.2 else replay M d evs (opOf M d e).2.1)

inductive ReadOk (M : MDat) (d : Nat) : List Ev → Prop
  | nil : ReadOk M d []
  | snoc {evs : List Ev} {e : Ev} : ReadOk M d evs → GoodEv M d evs e → ReadOk M d (evs ++ [e])

structure BookOk (M : MDat) (d : Nat) (S : So) : Prop where
  read : ReadOk M d S.evs
  next : ∀ k, k < M.c.cores.toNat → S.next.getD k 0 = seenF k S.evs
  word : ∀ a, wordF a (firstF0 M d a) S.log = replay M d S.evs a

theorem seen_snoc (k : Nat) (evs : List Ev) (e : Ev) : seenF k (evs ++ [e]) = seenF k evs + if e.core = (k : Int) then 1 else 0 := by
  unfold seenF
  rw [List.filter_append, List.length_append]
  by_cases h : e.core = (k : Int)
  · simp [h]
  · simp [h]

theorem replay_snoc (M : MDat) (d : Nat) (evs : List Ev) (e : Ev) : replay M d (evs ++ [e]) = updF M.c (opOf M d e) (replay M d evs) := by
  unfold replay
  rw [List.foldl_append]
  rfl

/-- An operation is done: what was written of it stands in the list already. -/
theorem book_done {M : MDat} {d : Nat} {S S' : So} {B k : Nat} {t v f : Int} (h : BookOk M d S) (hs : SoOk M d S B) (hk : k < M.c.cores.toNat) (hn : S.next.getD k 0 < (progF M d k).length)
    (e1 : S'.evs = S.evs) (e2 : S'.next = S.next) (hw : ∀ a, wordF a (firstF0 M d a) S'.log = updF M.c (opAt M d k S) (replay M d S.evs) a)
    (hf : faultF M.c (opAt M d k S) ≠ 0 → f = faultF M.c (opAt M d k S) ∧ v = 0) (hv : faultF M.c (opAt M d k S) = 0 → f = 0 ∧ v = if (opAt M d k S).1 = 1 then (opAt M d k S).2.2 else replay M d S.evs (opAt M d k S).2.1) :
    BookOk M d (S'.done k t v f) := by
  have hnx := h.next k hk
  have ev : (S'.done k t v f).evs = S.evs ++ [⟨k, S.next.getD k 0, v, f, S'.began.getD k 0, t⟩] := by
    show S'.evs ++ [⟨k, S'.next.getD k 0, v, f, S'.began.getD k 0, t⟩] = _
    rw [e1, e2]
  have op : opOf M d ⟨k, S.next.getD k 0, v, f, S'.began.getD k 0, t⟩ = opAt M d k S := by
    unfold opOf opAt
    simp only [Int.toNat_natCast]
  refine ⟨?_, fun j hj => ?_, fun a => ?_⟩
  · rw [ev]
    refine ReadOk.snoc h.read ⟨k, rfl, hk, ?_, by omega, ?_, ?_⟩
    · exact hnx
    · rw [op]; exact hf
    · rw [op]; exact hv
  · rw [ev, seen_snoc]
    show (S'.next.set k (S'.next.getD k 0 + 1)).getD j 0 = _
    rw [e2, getD_set (by rw [hs.nl]; exact hk)]
    by_cases g : j = k
    · subst g
      rw [if_pos rfl, if_pos rfl]
      omega
    · rw [if_neg g, if_neg (fun hh => g (by simp only at hh; omega)), h.next j hj]
      omega
  · rw [ev, replay_snoc, op]
    exact hw a

theorem word_other {a i : Int} {e : Ent} {log : List Ent} (h : e.what ≠ 4) : wordF a i (e :: log) = wordF a i log := by
  conv => lhs; unfold wordF
  rw [if_neg (by simp [h])]

theorem BookOk.told {M : MDat} {d : Nat} {S : So} {e : Ent} (h : BookOk M d S) (he : e.what ≠ 4) : BookOk M d (S.told e) :=
  ⟨h.read, h.next, fun a => (word_other he).trans (h.word a)⟩

theorem upd_load {c : Cf} {o : OpT} {g : Int → Int} {a : Int} (h : faultF c o ≠ 0 ∨ o.1 ≠ 1) : updF c o g a = g a := by
  unfold updF
  rw [if_neg (fun hh => by rcases h with h | h; exact h hh.1; exact h hh.2.1)]

theorem word_stored {M : MDat} {d : Nat} {S : So} {a : Int} {t core x way oad ovl : Int} {log : List Ent} {o : OpT} (h : wordF a (firstF0 M d a) log = replay M d S.evs a) (ho : o = (1, oad, ovl)) (hf : faultF M.c o = 0) :
    wordF a (firstF0 M d a) (⟨t, 4, core, x, way, false, false, oad, ovl⟩ :: log) = updF M.c o (replay M d S.evs) a := by
  subst ho
  unfold updF
  conv => lhs; unfold wordF
  by_cases g : oad = a
  · rw [if_pos (by simp [g]), if_pos ⟨hf, rfl, g⟩]
  · rw [if_neg (by simp [g]), if_neg (fun hh => g hh.2.2)]
    exact h

theorem book_serve {M : MDat} {d : Nat} {S : So} {B : Nat} {t : Int} (hs : SoOk M d S B) (h : BookOk M d S) : BookOk M d (So.serve M d S t) := by
  cases hq : S.queue with
  | nil =>
    have : So.serve M d S t = S := by unfold So.serve; rw [hq]
    rw [this]; exact h
  | cons q r =>
    obtain ⟨k, rfl, hk, hk1⟩ := hs.qu q (by rw [hq]; exact List.mem_cons_self ..)
    have hf := hs.w1 k hk hk1
    have hn : S.next.getD k 0 < (progF M d k).length := by rcases hs.hw k hk with e | e <;> omega
    rcases ho : opAt M d k S with ⟨okd, oad, ovl⟩
    rw [ho] at hf
    by_cases hw : 0 ≤ whereF (oad / M.c.line) S.log
    · by_cases hkd : okd = 1
      · subst hkd
        rw [serve_store hq ho rfl hw]
        refine book_done h hs hk hn rfl rfl (fun a => ?_) (fun hh => by rw [ho] at hh; exact absurd hf hh) (fun _ => by rw [ho]; exact ⟨rfl, by simp⟩)
        rw [ho]
        exact word_stored (S := S) (by show wordF a _ (_ :: S.log) = _; rw [word_other (by simp)]; exact h.word a) rfl hf
      · rw [serve_load hq ho hkd rfl hw]
        refine book_done h hs hk hn rfl rfl (fun a => ?_) (fun hh => by rw [ho] at hh; exact absurd hf hh) (fun _ => by
          rw [ho]
          refine ⟨rfl, ?_⟩
          simp only
          rw [if_neg hkd, word_other (by simp), h.word])
        rw [ho, upd_load (Or.inr hkd)]
        show wordF a _ (_ :: S.log) = _
        rw [word_other (by simp)]
        exact h.word a
    · obtain ⟨way, hcw⟩ : ∃ way, chosenF M.c (M.c.ways.count (d : Int)) (oad / M.c.line % M.c.sets) S.log = way := ⟨_, rfl⟩
      obtain ⟨y, hy⟩ : ∃ y, liesF M.c (oad / M.c.line % M.c.sets) way S.log = y := ⟨_, rfl⟩
      by_cases h0 : 0 ≤ y
      · cases hm : markedF y S.log with
        | true => rw [serve_gone hq ho rfl hw hcw hy h0 hm]; exact h.told (by simp)
        | false => rw [serve_both hq ho rfl hw hcw hy h0 hm]; exact (h.told (by simp)).told (by simp)
      · rw [serve_fill hq ho rfl hw hcw hy h0]; exact h.told (by simp)

theorem book_service {M : MDat} {d : Nat} {S : So} {B : Nat} {t : Int} (hs : SoOk M d S B) (h : BookOk M d S) : BookOk M d (So.service M d S t) := by
  unfold So.service
  by_cases c1 : servesB M.c d t = true
  · rw [if_pos c1]; exact book_serve hs h
  · rw [if_neg c1]; exact h

theorem book_begin {M : MDat} {d : Nat} {S : So} {B k : Nat} {t : Int} (hs : SoOk M d S B) (hk : k < M.c.cores.toNat) (hn : S.next.getD k 0 < (progF M d k).length) (h : BookOk M d S) : BookOk M d (So.begin M d k S t) := by
  rcases ho : opAt M d k S with ⟨okd, oad, ovl⟩
  unfold So.begin
  by_cases c1 : faultF M.c (opAt M d k S) ≠ 0
  · simp only [if_pos c1]
    exact ⟨h.read, h.next, h.word⟩
  · simp only [if_neg c1]
    have hf : faultF M.c (opAt M d k S) = 0 := by omega
    by_cases c2 : stateF M.c k ((opAt M d k S).2.1 / M.c.line) t false S.log = 0 ∨ ((opAt M d k S).1 = 1 ∧ stateF M.c k ((opAt M d k S).2.1 / M.c.line) t false S.log = 1)
    · simp only [if_pos c2]
      exact ⟨h.read, h.next, h.word⟩
    · simp only [if_neg c2]
      by_cases c3 : (opAt M d k S).1 = 1
      · simp only [if_pos c3]
        refine book_done h hs hk hn rfl rfl (fun a => ?_) (fun hh => absurd hf hh) (fun _ => ⟨rfl, by rw [if_pos c3]⟩)
        rw [ho] at c3 hf ⊢
        simp only at c3
        subst c3
        exact word_stored (S := S) (h.word a) rfl hf
      · simp only [if_neg c3]
        refine book_done h hs hk hn rfl rfl (fun a => ?_) (fun hh => absurd hf hh) (fun _ => ⟨rfl, by rw [if_neg c3]; exact h.word _⟩)
        rw [upd_load (Or.inr c3)]
        exact h.word a

theorem book_works {M : MDat} {d : Nat} {S : So} {B k : Nat} {t : Int} (hs : SoOk M d S B) (hf2 : S.how.getD k 0 = 2 → faultF M.c (opAt M d k S) ≠ 0) (hk : k < M.c.cores.toNat) (h : BookOk M d S) : BookOk M d (So.works M d k S t) := by
  unfold So.works
  by_cases c1 : S.how.getD k 0 = 2 ∧ t = S.began.getD k 0 + 2
  · rw [if_pos c1]
    have hn : S.next.getD k 0 < (progF M d k).length := by rcases hs.hw k hk with e | e <;> omega
    have hf := hf2 c1.1
    exact book_done h hs hk hn rfl rfl (fun a => by rw [upd_load (Or.inl hf)]; exact h.word a) (fun _ => ⟨rfl, rfl⟩) (fun hh => absurd hh hf)
  · rw [if_neg c1]
    by_cases c2 : S.how.getD k 0 ≠ 0 ∨ t < S.free.getD k 0 ∨ ((progF M d k).length : Int) ≤ S.next.getD k 0 ∨ openB M.c k d t = false
    · rw [if_pos c2]; exact h
    · rw [if_neg c2]
      exact book_begin hs hk (by omega) h
end Go.Proofs.YtehheaedbnfidaaGreat

namespace Go.Proofs.YtehheaedbnfidaaGreat

/-- What fails is a fault. -/
def FaultOk (M : MDat) (d : Nat) (S : So) : Prop := ∀ k, k < M.c.cores.toNat → S.how.getD k 0 = 2 → faultF M.c (opAt M d k S) ≠ 0

theorem opAt_next {M : MDat} {d j : Nat} {S S' : So} (h : S'.next.getD j 0 = S.next.getD j 0) : opAt M d j S' = opAt M d j S := by unfold opAt; rw [h]

theorem serve_next {M : MDat} {d : Nat} {S : So} {B j : Nat} {t : Int} (hs : SoOk M d S B) (hj : (j : Int) ∉ S.queue) : (So.serve M d S t).next.getD j 0 = S.next.getD j 0 := by
  unfold So.serve
  cases hq : S.queue with
  | nil => rfl
  | cons q r =>
    obtain ⟨k, rfl, _, _⟩ := hs.qu q (by rw [hq]; exact List.mem_cons_self ..)
    have e : j ≠ k := fun e => by subst e; exact hj (by rw [hq]; exact List.mem_cons_self ..)
    simp only [Int.toNat_natCast]
    split
    · split
      · exact getD_set_ne e
      · exact getD_set_ne e
    · split
      · split <;> rfl
      · rfl

theorem fault_service {M : MDat} {d : Nat} {S : So} {B : Nat} {t : Int} (hs : SoOk M d S B) (h : FaultOk M d S) : FaultOk M d (So.service M d S t) := by
  intro j hj hh
  obtain ⟨g1, _⟩ := service_how hh
  have e : (So.service M d S t).next.getD j 0 = S.next.getD j 0 := by
    unfold So.service
    by_cases c1 : servesB M.c d t = true
    · rw [if_pos c1]; exact serve_next hs (not_waiting hs (by omega))
    · rw [if_neg c1]
  rw [opAt_next e]
  exact h j hj g1

theorem begin_next {M : MDat} {d : Nat} {S : So} {t : Int} {k j : Nat} (h : j ≠ k) : (So.begin M d k S t).next.getD j 0 = S.next.getD j 0 := by
  unfold So.begin
  by_cases c1 : faultF M.c (opAt M d k S) ≠ 0
  · simp only [if_pos c1]
  · simp only [if_neg c1]
    by_cases c2 : stateF M.c k ((opAt M d k S).2.1 / M.c.line) t false S.log = 0 ∨ ((opAt M d k S).1 = 1 ∧ stateF M.c k ((opAt M d k S).2.1 / M.c.line) t false S.log = 1)
    · simp only [if_pos c2]
    · simp only [if_neg c2]
      by_cases c3 : (opAt M d k S).1 = 1
      · simp only [if_pos c3]; exact getD_set_ne h
      · simp only [if_neg c3]; exact getD_set_ne h

theorem works_next {M : MDat} {d : Nat} {S : So} {t : Int} {k j : Nat} (h : j ≠ k) : (So.works M d k S t).next.getD j 0 = S.next.getD j 0 := by
  unfold So.works
  by_cases c1 : S.how.getD k 0 = 2 ∧ t = S.began.getD k 0 + 2
  · rw [if_pos c1]; exact getD_set_ne h
  · rw [if_neg c1]
    by_cases c2 : S.how.getD k 0 ≠ 0 ∨ t < S.free.getD k 0 ∨ ((progF M d k).length : Int) ≤ S.next.getD k 0 ∨ openB M.c k d t = false
    · rw [if_pos c2]
    · rw [if_neg c2]; exact begin_next h

theorem begin_fault {M : MDat} {d : Nat} {S : So} {B k : Nat} {t : Int} (hs : SoOk M d S B) (hk : k < M.c.cores.toNat) (hh : (So.begin M d k S t).how.getD k 0 = 2) : faultF M.c (opAt M d k (So.begin M d k S t)) ≠ 0 := by
  have kh : k < S.how.length := by rw [hs.hl]; exact hk
  unfold So.begin at hh ⊢
  by_cases c1 : faultF M.c (opAt M d k S) ≠ 0
  · simp only [if_pos c1]
    exact c1
  · simp only [if_neg c1] at hh
    exfalso
    by_cases c2 : stateF M.c k ((opAt M d k S).2.1 / M.c.line) t false S.log = 0 ∨ ((opAt M d k S).1 = 1 ∧ stateF M.c k ((opAt M d k S).2.1 / M.c.line) t false S.log = 1)
    · simp only [if_pos c2] at hh
      rw [getD_set kh, if_pos rfl] at hh
      omega
    · simp only [if_neg c2] at hh
      by_cases c3 : (opAt M d k S).1 = 1
      · simp only [if_pos c3] at hh
        have : (S.how.set k 0).getD k 0 = 2 := hh
        rw [getD_set kh, if_pos rfl] at this
        omega
      · simp only [if_neg c3] at hh
        have : (S.how.set k 0).getD k 0 = 2 := hh
        rw [getD_set kh, if_pos rfl] at this
        omega

theorem fault_works {M : MDat} {d : Nat} {S : So} {B k : Nat} {t : Int} (hs : SoOk M d S B) (hk : k < M.c.cores.toNat) (h : FaultOk M d S) : FaultOk M d (So.works M d k S t) := by
  intro j hj hh
  by_cases e : j = k
  · subst e
    have kh : j < S.how.length := by rw [hs.hl]; exact hk
    unfold So.works at hh ⊢
    by_cases c1 : S.how.getD j 0 = 2 ∧ t = S.began.getD j 0 + 2
    · rw [if_pos c1] at hh
      have : (S.how.set j 0).getD j 0 = 2 := hh
      rw [getD_set kh, if_pos rfl] at this
      omega
    · rw [if_neg c1] at hh ⊢
      by_cases c2 : S.how.getD j 0 ≠ 0 ∨ t < S.free.getD j 0 ∨ ((progF M d j).length : Int) ≤ S.next.getD j 0 ∨ openB M.c j d t = false
      · rw [if_pos c2] at hh ⊢; exact h j hj hh
      · rw [if_neg c2] at hh ⊢; exact begin_fault hs hk hh
  · rw [opAt_next (works_next e)]
    rw [(works_other e).1] at hh
    exact h j hj hh

theorem book_worksAll {M : MDat} {d : Nat} {t : Int} (hc : chk M.c = 0) (t0 : 0 ≤ t) (t1 : t ≤ 10000) : ∀ (n j : Nat) {S : So} {B : Nat}, SoOk M d S B → j + n ≤ M.c.cores.toNat → FaultOk M d S → BookOk M d S → FaultOk M d (So.worksAll M d t n j S) ∧ BookOk M d (So.worksAll M d t n j S)
  | 0, _, _, _, _, _, hf, h => ⟨hf, h⟩
  | n + 1, j, S, B, hs, hj, hf, h => book_worksAll hc t0 t1 n (j + 1) (hs.works hc (by omega : j < _) t0 t1) (by omega) (fault_works hs (by omega) hf) (book_works hs (hf j (by omega)) (by omega) h)

theorem book_upto {M : MDat} {d : Nat} (hc : chk M.c = 0) : ∀ (T : Nat), T ≤ 10000 → FaultOk M d (So.upto M d T) ∧ BookOk M d (So.upto M d T)
  | 0, _ => by
    have z : ∀ k, (List.replicate M.c.cores.toNat (0 : Int)).getD k 0 = 0 := fun k => by
      rw [List.getD_eq_getElem?_getD, List.getElem?_replicate]; split <;> rfl
    refine ⟨fun k _ h => ?_, ReadOk.nil, fun k _ => ?_, fun a => rfl⟩
    · have : (List.replicate M.c.cores.toNat (0 : Int)).getD k 0 = 2 := h
      rw [z] at this; omega
    · show (List.replicate M.c.cores.toNat (0 : Int)).getD k 0 = _
      rw [z]; rfl
  | t + 1, h => by
    obtain ⟨i1, i2⟩ := book_upto (M := M) (d := d) hc t (by omega)
    have hs := SoOk.upto (M := M) (d := d) hc t (by omega)
    exact book_worksAll hc (by omega) (by omega) M.c.cores.toNat 0 (hs.service hc (by omega) (by omega)) (by omega) (fault_service hs i1) (book_service hs i2)
end Go.Proofs.YtehheaedbnfidaaGreat

namespace Go.Proofs.YtehheaedbnfidaaGreat

/-- From when on the core k is free, by the events. -/
def freeOf (k : Nat) (evs : List Ev) : Int := evs.foldl (fun f e => if e.core = (k : Int) then e.done + 1 else f) 0

theorem free_snoc (k : Nat) (evs : List Ev) (e : Ev) : freeOf k (evs ++ [e]) = if e.core = (k : Int) then e.done + 1 else freeOf k evs := by
  unfold freeOf
  rw [List.foldl_append]
  rfl

/-- Nothing that was open was let go by. -/
def IdleAt (M : MDat) (d : Nat) (S : So) (k : Nat) (t : Int) : Prop :=
  (S.how.getD k 0 = 0 → S.next.getD k 0 < (progF M d k).length → ∀ u, S.free.getD k 0 ≤ u → u < t → openB M.c k d u = false) ∧
  (S.how.getD k 0 ≠ 0 → S.free.getD k 0 ≤ S.began.getD k 0 ∧ ∀ u, S.free.getD k 0 ≤ u → u < S.began.getD k 0 → openB M.c k d u = false)

theorem IdleAt.same {M : MDat} {d k : Nat} {S S' : So} {t : Int} (h : IdleAt M d S k t) (h1 : S'.how.getD k 0 = S.how.getD k 0) (h2 : S'.next.getD k 0 = S.next.getD k 0) (h3 : S'.free.getD k 0 = S.free.getD k 0) (h4 : S'.began.getD k 0 = S.began.getD k 0) : IdleAt M d S' k t := by
  unfold IdleAt
  rw [h1, h2, h3, h4]
  exact h

/-- A core that is free from t + 1 on. -/
theorem idle_done {M : MDat} {d k : Nat} {S : So} {t u v f : Int} (hk : k < S.how.length) (hf : k < S.free.length) (hu : u ≤ t + 1) : IdleAt M d (S.done k t v f) k u := by
  have e1 : (S.done k t v f).how.getD k 0 = 0 := by show (S.how.set k 0).getD k 0 = 0; rw [getD_set hk, if_pos rfl]
  have e2 : (S.done k t v f).free.getD k 0 = t + 1 := by show (S.free.set k (t + 1)).getD k 0 = t + 1; rw [getD_set hf, if_pos rfl]
  refine ⟨fun _ _ x h1 h2 => ?_, fun h => absurd e1 h⟩
  rw [e2] at h1
  omega

theorem done_all_other {S : So} {k j : Nat} {t v f : Int} (h : j ≠ k) : (S.done k t v f).how.getD j 0 = S.how.getD j 0 ∧ (S.done k t v f).next.getD j 0 = S.next.getD j 0 ∧ (S.done k t v f).free.getD j 0 = S.free.getD j 0 ∧ (S.done k t v f).began.getD j 0 = S.began.getD j 0 :=
  ⟨getD_set_ne h, getD_set_ne h, getD_set_ne h, rfl⟩

theorem idle_serve {M : MDat} {d : Nat} {S : So} {B j : Nat} {t : Int} (hs : SoOk M d S B) (hj : j < M.c.cores.toNat) (h : IdleAt M d S j t) : IdleAt M d (So.serve M d S t) j t := by
  have jh : j < S.how.length := by rw [hs.hl]; exact hj
  have jf : j < S.free.length := by rw [hs.fl]; exact hj
  unfold So.serve
  cases hq : S.queue with
  | nil => exact h
  | cons q r =>
    obtain ⟨k, rfl, _, _⟩ := hs.qu q (by rw [hq]; exact List.mem_cons_self ..)
    simp only [Int.toNat_natCast]
    split
    · split
      · by_cases e : j = k
        · subst e; exact idle_done jh jf (by omega)
        · have g := fun (S' : So) (v f : Int) => done_all_other (S := S') (k := k) (j := j) (t := t) (v := v) (f := f) e
          exact IdleAt.same h (g _ _ _).1 (g _ _ _).2.1 (g _ _ _).2.2.1 (g _ _ _).2.2.2
      · by_cases e : j = k
        · subst e; exact idle_done jh jf (by omega)
        · have g := fun (S' : So) (v f : Int) => done_all_other (S := S') (k := k) (j := j) (t := t) (v := v) (f := f) e
          exact IdleAt.same h (g _ _ _).1 (g _ _ _).2.1 (g _ _ _).2.2.1 (g _ _ _).2.2.2
    · split
      · split
        · exact h
        · exact h
      · exact h

theorem idle_service {M : MDat} {d : Nat} {S : So} {B j : Nat} {t : Int} (hs : SoOk M d S B) (hj : j < M.c.cores.toNat) (h : IdleAt M d S j t) : IdleAt M d (So.service M d S t) j t := by
  unfold So.service
  by_cases c1 : servesB M.c d t = true
  · rw [if_pos c1]; exact idle_serve hs hj h
  · rw [if_neg c1]; exact h

theorem begin_free_other {M : MDat} {d : Nat} {S : So} {t : Int} {k j : Nat} (h : j ≠ k) : (So.begin M d k S t).free.getD j 0 = S.free.getD j 0 := by
  unfold So.begin
  by_cases c1 : faultF M.c (opAt M d k S) ≠ 0
  · simp only [if_pos c1]
  · simp only [if_neg c1]
    by_cases c2 : stateF M.c k ((opAt M d k S).2.1 / M.c.line) t false S.log = 0 ∨ ((opAt M d k S).1 = 1 ∧ stateF M.c k ((opAt M d k S).2.1 / M.c.line) t false S.log = 1)
    · simp only [if_pos c2]
    · simp only [if_neg c2]
      by_cases c3 : (opAt M d k S).1 = 1
      · simp only [if_pos c3]; exact getD_set_ne h
      · simp only [if_neg c3]; exact getD_set_ne h

theorem works_free_other {M : MDat} {d : Nat} {S : So} {t : Int} {k j : Nat} (h : j ≠ k) : (So.works M d k S t).free.getD j 0 = S.free.getD j 0 := by
  unfold So.works
  by_cases c1 : S.how.getD k 0 = 2 ∧ t = S.began.getD k 0 + 2
  · rw [if_pos c1]; exact getD_set_ne h
  · rw [if_neg c1]
    by_cases c2 : S.how.getD k 0 ≠ 0 ∨ t < S.free.getD k 0 ∨ ((progF M d k).length : Int) ≤ S.next.getD k 0 ∨ openB M.c k d t = false
    · rw [if_pos c2]
    · rw [if_neg c2]; exact begin_free_other h

theorem idle_works_other {M : MDat} {d : Nat} {S : So} {t u : Int} {k j : Nat} (h : j ≠ k) (hi : IdleAt M d S j u) : IdleAt M d (So.works M d k S t) j u :=
  hi.same (works_other h).1 (works_next h) (works_free_other h) (works_other h).2

theorem idle_begin {M : MDat} {d : Nat} {S : So} {B k : Nat} {t : Int} (hs : SoOk M d S B) (hk : k < M.c.cores.toNat) (hn : S.next.getD k 0 < (progF M d k).length) (h0 : S.how.getD k 0 = 0) (hf : S.free.getD k 0 ≤ t) (h : IdleAt M d S k t) : IdleAt M d (So.begin M d k S t) k (t + 1) := by
  have kh : k < S.how.length := by rw [hs.hl]; exact hk
  have kf : k < S.free.length := by rw [hs.fl]; exact hk
  have kb : k < S.began.length := by rw [hs.bl]; exact hk
  have ho := h.1 h0 hn
  unfold So.begin
  by_cases c1 : faultF M.c (opAt M d k S) ≠ 0
  · simp only [if_pos c1]
    refine ⟨fun hh => ?_, fun _ => ?_⟩
    · simp only at hh
      rw [getD_set kh, if_pos rfl] at hh
      omega
    · simp only
      rw [getD_set kb, if_pos rfl]
      exact ⟨hf, ho⟩
  · simp only [if_neg c1]
    by_cases c2 : stateF M.c k ((opAt M d k S).2.1 / M.c.line) t false S.log = 0 ∨ ((opAt M d k S).1 = 1 ∧ stateF M.c k ((opAt M d k S).2.1 / M.c.line) t false S.log = 1)
    · simp only [if_pos c2]
      refine ⟨fun hh => ?_, fun _ => ?_⟩
      · simp only at hh
        rw [getD_set kh, if_pos rfl] at hh
        omega
      · simp only
        rw [getD_set kb, if_pos rfl]
        exact ⟨hf, ho⟩
    · simp only [if_neg c2]
      by_cases c3 : (opAt M d k S).1 = 1
      · simp only [if_pos c3]
        exact idle_done kh kf (Int.le_refl _)
      · simp only [if_neg c3]
        exact idle_done kh kf (Int.le_refl _)

theorem idle_works {M : MDat} {d : Nat} {S : So} {B k : Nat} {t : Int} (hs : SoOk M d S B) (hk : k < M.c.cores.toNat) (h : IdleAt M d S k t) : IdleAt M d (So.works M d k S t) k (t + 1) := by
  unfold So.works
  by_cases c1 : S.how.getD k 0 = 2 ∧ t = S.began.getD k 0 + 2
  · rw [if_pos c1]
    exact idle_done (by rw [hs.hl]; exact hk) (by rw [hs.fl]; exact hk) (Int.le_refl _)
  · rw [if_neg c1]
    by_cases c2 : S.how.getD k 0 ≠ 0 ∨ t < S.free.getD k 0 ∨ ((progF M d k).length : Int) ≤ S.next.getD k 0 ∨ openB M.c k d t = false
    · rw [if_pos c2]
      refine ⟨fun h0 hn u h1 h2 => ?_, h.2⟩
      by_cases e : u = t
      · subst e
        rcases c2 with c2 | c2 | c2 | c2
        · exact absurd h0 c2
        · omega
        · omega
        · exact c2
      · exact h.1 h0 hn u h1 (by omega)
    · rw [if_neg c2]
      exact idle_begin hs hk (by omega) (by omega) (by omega) h

theorem idle_worksAll {M : MDat} {d : Nat} {t : Int} (hc : chk M.c = 0) (t0 : 0 ≤ t) (t1 : t ≤ 10000) : ∀ (n j : Nat) {S : So} {B : Nat}, SoOk M d S B → j + n = M.c.cores.toNat → (∀ i, i < M.c.cores.toNat → IdleAt M d S i (if i < j then t + 1 else t)) → ∀ i, i < M.c.cores.toNat → IdleAt M d (So.worksAll M d t n j S) i (t + 1)
  | 0, j, S, _, _, hj, h => fun i hi => by
    have := h i hi
    rw [if_pos (by omega)] at this
    exact this
  | n + 1, j, S, B, hs, hj, h => by
    unfold So.worksAll
    refine idle_worksAll hc t0 t1 n (j + 1) (hs.works hc (k := j) (by omega) t0 t1) (by omega) (fun i hi => ?_)
    have := h i hi
    by_cases e : i = j
    · subst e
      rw [if_pos (by omega)]
      rw [if_neg (by omega)] at this
      exact idle_works hs hi this
    · by_cases g : i < j
      · rw [if_pos g] at this; rw [if_pos (by omega)]; exact idle_works_other e this
      · rw [if_neg g] at this; rw [if_neg (by omega)]; exact idle_works_other e this

theorem idle_upto {M : MDat} {d : Nat} (hc : chk M.c = 0) : ∀ (T : Nat), T ≤ 10000 → ∀ k, k < M.c.cores.toNat → IdleAt M d (So.upto M d T) k T
  | 0, _ => fun k _ => by
    have z : ∀ k, (List.replicate M.c.cores.toNat (0 : Int)).getD k 0 = 0 := fun k => by
      rw [List.getD_eq_getElem?_getD, List.getElem?_replicate]; split <;> rfl
    refine ⟨fun _ _ u h1 h2 => ?_, fun hh => absurd (z k) hh⟩
    have : (So.upto M d 0).free.getD k 0 = 0 := z k
    rw [this] at h1
    omega
  | t + 1, h => fun k hk => by
    have hs := SoOk.upto (M := M) (d := d) hc t (by omega)
    have i0 := idle_upto (M := M) (d := d) hc t (by omega)
    exact idle_worksAll hc (by omega) (by omega) M.c.cores.toNat 0 (hs.service hc (by omega) (by omega)) (by omega) (fun i hi => by rw [if_neg (by omega)]; exact idle_service hs hi (i0 i hi)) k hk
end Go.Proofs.YtehheaedbnfidaaGreat

namespace Go.Proofs.YtehheaedbnfidaaGreat

def servedB (e : Ev) : Bool := decide (e.fault = 0 ∧ e.issue < e.done)
/-- b may stand right behind a. -/
def Behind (a b : Ev) : Prop := a.done < b.done ∨ (a.done = b.done ∧ servedB b = false ∧ (servedB a = true ∨ a.core < b.core))

/-- An event behind the events evs: it began in the first open cycle; it was done in time. -/
structure TimedEv (M : MDat) (d : Nat) (evs : List Ev) (e : Ev) : Prop where
  core : ∃ k : Nat, e.core = k ∧ k < M.c.cores.toNat ∧ openB M.c k d e.issue = true ∧ freeOf k evs ≤ e.issue ∧ ∀ u, freeOf k evs ≤ u → u < e.issue → openB M.c k d u = false
  order : e.issue ≤ e.done
  fault : e.fault ≠ 0 → e.done = e.issue + 2
  plain : e.fault = 0 → e.done = e.issue ∨ (servesB M.c d e.done = true ∧ e.issue < e.done ∧ e.done ≤ e.issue + worstZ M.c)
  last : ∀ a, evs.getLast? = some a → Behind a e

inductive TimedOk (M : MDat) (d : Nat) : List Ev → Prop
  | nil : TimedOk M d []
  | snoc {evs : List Ev} {e : Ev} : TimedOk M d evs → TimedEv M d evs e → TimedOk M d (evs ++ [e])

/-- In the cycle t, the cores below j have had their turn. -/
structure ClockOk (M : MDat) (d : Nat) (S : So) (t : Int) (j : Nat) : Prop where
  timed : TimedOk M d S.evs
  free : ∀ k, k < M.c.cores.toNat → S.free.getD k 0 = freeOf k S.evs
  last : ∀ a, S.evs.getLast? = some a → a.done < t ∨ (a.done = t ∧ (servedB a = true ∨ a.core < j))

theorem clock_done {M : MDat} {d : Nat} {S S' : So} {B k j : Nat} {t v f : Int} (j' : Nat) (h : ClockOk M d S t j) (hs : SoOk M d S B) (hk : k < M.c.cores.toNat) (e1 : S'.evs = S.evs) (e2 : S'.free = S.free)
    (ho : openB M.c k d (S'.began.getD k 0) = true) (hf : S.free.getD k 0 ≤ S'.began.getD k 0) (hc : ∀ u, S.free.getD k 0 ≤ u → u < S'.began.getD k 0 → openB M.c k d u = false)
    (h1 : S'.began.getD k 0 ≤ t) (h2 : f ≠ 0 → t = S'.began.getD k 0 + 2) (h3 : f = 0 → t = S'.began.getD k 0 ∨ (servesB M.c d t = true ∧ S'.began.getD k 0 < t ∧ t ≤ S'.began.getD k 0 + worstZ M.c))
    (hb : (∀ a, S.evs.getLast? = some a → a.done < t) ∨ (¬ (f = 0 ∧ S'.began.getD k 0 < t) ∧ j ≤ k)) (hj : (f = 0 ∧ S'.began.getD k 0 < t) ∨ k < j') : ClockOk M d (S'.done k t v f) t j' := by
  have ev : (S'.done k t v f).evs = S.evs ++ [⟨k, S'.next.getD k 0, v, f, S'.began.getD k 0, t⟩] := by
    show S'.evs ++ [⟨k, S'.next.getD k 0, v, f, S'.began.getD k 0, t⟩] = _
    rw [e1]
  have hfr := h.free k hk
  refine ⟨?_, fun i hi => ?_, fun a ha => ?_⟩
  · rw [ev]
    refine TimedOk.snoc h.timed ⟨⟨k, rfl, hk, ho, by rw [← hfr]; exact hf, by rw [← hfr]; exact hc⟩, h1, h2, h3, fun a ha => ?_⟩
    rcases hb with hb | ⟨hb1, hb2⟩
    · exact Or.inl (hb a ha)
    · rcases h.last a ha with g | ⟨g1, g2⟩
      · exact Or.inl g
      · refine Or.inr ⟨g1, ?_, ?_⟩
        · exact decide_eq_false hb1
        · rcases g2 with g2 | g2
          · exact Or.inl g2
          · right
            show a.core < (k : Int)
            omega
  · rw [ev, free_snoc]
    show (S'.free.set k (t + 1)).getD i 0 = _
    rw [e2, getD_set (by rw [hs.fl]; exact hk)]
    by_cases g : i = k
    · subst g
      rw [if_pos rfl, if_pos rfl]
    · rw [if_neg g, if_neg (fun hh => g (by simp only at hh; omega)), h.free i hi]
  · rw [ev, List.getLast?_concat] at ha
    simp only [Option.some.injEq] at ha
    subst ha
    refine Or.inr ⟨rfl, ?_⟩
    rcases hj with hj | hj
    · exact Or.inl (decide_eq_true hj)
    · right
      show (k : Int) < j'
      omega

theorem ClockOk.same {M : MDat} {d : Nat} {S S' : So} {t : Int} {j j' : Nat} (h : ClockOk M d S t j) (h1 : S'.evs = S.evs) (h2 : S'.free = S.free) (hj : j ≤ j') : ClockOk M d S' t j' := by
  refine ⟨by rw [h1]; exact h.timed, fun k hk => by rw [h1, h2]; exact h.free k hk, fun a ha => ?_⟩
  rw [h1] at ha
  rcases h.last a ha with g | ⟨g1, g2⟩
  · exact Or.inl g
  · refine Or.inr ⟨g1, ?_⟩
    rcases g2 with g2 | g2
    · exact Or.inl g2
    · right; omega

theorem clock_service {M : MDat} {d : Nat} {S : So} {B : Nat} {t : Int} (hs : SoOk M d S B) (hc : chk M.c = 0) (hd : (d : Int) < M.c.domains) (t0 : 0 ≤ t) (hdue : DueOk M d S t) (hu : Under M d S (t - 1)) (hi : ∀ k, k < M.c.cores.toNat → IdleAt M d S k t)
    (h : ClockOk M d S t 0) (hl : ∀ a, S.evs.getLast? = some a → a.done < t) : ClockOk M d (So.service M d S t) t 0 := by
  unfold So.service
  by_cases c1 : servesB M.c d t = true
  · rw [if_pos c1]
    cases hq : S.queue with
    | nil =>
      have : So.serve M d S t = S := by unfold So.serve; rw [hq]
      rw [this]; exact h
    | cons q r =>
      obtain ⟨k, rfl, hk, hk1⟩ := hs.qu q (by rw [hq]; exact List.mem_cons_self ..)
      rcases ho : opAt M d k S with ⟨okd, oad, ovl⟩
      obtain ⟨u1, u2, _⟩ := hu k hk (by omega)
      obtain ⟨i1, i2⟩ := (hi k hk).2 (by omega)
      have hw : t ≤ S.began.getD k 0 + worstZ M.c := by
        have g := hdue 0 k (by rw [hq]; rfl)
        obtain ⟨w1, _, _⟩ := wait_bd (d := d) (t := t) hc hd t0
        have p1 := per_pos hc
        have n1 := need_pos (M := M) (d := d) (S := S) (by rw [hq]; simp)
        have m1 : 0 ≤ (3 * ((0 : Nat) : Int) + needF M d S - 1) * perZ M.c := Int.mul_nonneg (by omega) (by omega)
        omega
      have fin : ∀ (S' : So) (v : Int), S'.evs = S.evs → S'.free = S.free → S'.began = S.began → ClockOk M d (S'.done k t v 0) t 0 := fun S' v e1 e2 e3 => by
        have eb : S'.began.getD k 0 = S.began.getD k 0 := by rw [e3]
        exact clock_done 0 h hs hk e1 e2 (by rw [eb]; exact u1) (by rw [eb]; exact i1) (by rw [eb]; exact i2) (by omega) (fun hh => absurd rfl hh) (fun _ => Or.inr ⟨c1, by omega, by omega⟩) (Or.inl hl) (Or.inl ⟨rfl, by omega⟩)
      by_cases hw1 : 0 ≤ whereF (oad / M.c.line) S.log
      · by_cases hkd : okd = 1
        · subst hkd
          rw [serve_store hq ho rfl hw1]
          exact fin _ _ rfl rfl rfl
        · rw [serve_load hq ho hkd rfl hw1]
          exact fin _ _ rfl rfl rfl
      · obtain ⟨way, hcw⟩ : ∃ way, chosenF M.c (M.c.ways.count (d : Int)) (oad / M.c.line % M.c.sets) S.log = way := ⟨_, rfl⟩
        obtain ⟨y, hy⟩ : ∃ y, liesF M.c (oad / M.c.line % M.c.sets) way S.log = y := ⟨_, rfl⟩
        by_cases h0 : 0 ≤ y
        · cases hm : markedF y S.log with
          | true => rw [serve_gone hq ho rfl hw1 hcw hy h0 hm]; exact h.same rfl rfl (Nat.le_refl _)
          | false => rw [serve_both hq ho rfl hw1 hcw hy h0 hm]; exact h.same rfl rfl (Nat.le_refl _)
        · rw [serve_fill hq ho rfl hw1 hcw hy h0]; exact h.same rfl rfl (Nat.le_refl _)
  · rw [if_neg c1]; exact h

theorem clock_works {M : MDat} {d : Nat} {S : So} {B k : Nat} {t : Int} (hs : SoOk M d S B) (hk : k < M.c.cores.toNat) (hfa : FaultOk M d S) (hu : Under M d S t) (hi : IdleAt M d S k t) (h : ClockOk M d S t k) : ClockOk M d (So.works M d k S t) t (k + 1) := by
  have kb : k < S.began.length := by rw [hs.bl]; exact hk
  unfold So.works
  by_cases c1 : S.how.getD k 0 = 2 ∧ t = S.began.getD k 0 + 2
  · rw [if_pos c1]
    obtain ⟨u1, u2, _⟩ := hu k hk (by omega)
    obtain ⟨i1, i2⟩ := hi.2 (by omega)
    have hf := hfa k hk c1.1
    exact clock_done (k + 1) h hs hk rfl rfl u1 i1 i2 u2 (fun _ => c1.2) (fun hh => absurd hh hf) (Or.inr ⟨fun hh => hf hh.1, Nat.le_refl _⟩) (Or.inr (by omega))
  · rw [if_neg c1]
    by_cases c2 : S.how.getD k 0 ≠ 0 ∨ t < S.free.getD k 0 ∨ ((progF M d k).length : Int) ≤ S.next.getD k 0 ∨ openB M.c k d t = false
    · rw [if_pos c2]; exact h.same rfl rfl (by omega)
    · rw [if_neg c2]
      have ho : openB M.c k d t = true := by
        cases ho : openB M.c k d t with
        | true => rfl
        | false => exact absurd (Or.inr (Or.inr (Or.inr ho))) c2
      have i1 := hi.1 (by omega) (by omega)
      have eb : (S.began.set k t).getD k 0 = t := by rw [getD_set kb, if_pos rfl]
      have fin : ∀ (S' : So) (v : Int), S'.evs = S.evs → S'.free = S.free → S'.began = S.began.set k t → ClockOk M d (S'.done k t v 0) t (k + 1) := fun S' v e1 e2 e3 => by
        have eb' : S'.began.getD k 0 = t := by rw [e3]; exact eb
        exact clock_done (k + 1) h hs hk e1 e2 (by rw [eb']; exact ho) (by rw [eb']; omega) (by rw [eb']; exact i1) (by omega) (fun hh => absurd rfl hh) (fun _ => Or.inl (by omega)) (Or.inr ⟨by omega, Nat.le_refl _⟩) (Or.inr (by omega))
      unfold So.begin
      by_cases d1 : faultF M.c (opAt M d k S) ≠ 0
      · simp only [if_pos d1]
        exact h.same rfl rfl (by omega)
      · simp only [if_neg d1]
        by_cases d2 : stateF M.c k ((opAt M d k S).2.1 / M.c.line) t false S.log = 0 ∨ ((opAt M d k S).1 = 1 ∧ stateF M.c k ((opAt M d k S).2.1 / M.c.line) t false S.log = 1)
        · simp only [if_pos d2]
          exact h.same rfl rfl (by omega)
        · simp only [if_neg d2]
          by_cases d3 : (opAt M d k S).1 = 1
          · simp only [if_pos d3]; exact fin _ _ rfl rfl rfl
          · simp only [if_neg d3]; exact fin _ _ rfl rfl rfl

theorem clock_worksAll {M : MDat} {d : Nat} {t : Int} (hc : chk M.c = 0) (t0 : 0 ≤ t) (t1 : t ≤ 10000) : ∀ (n j : Nat) {S : So} {B : Nat}, SoOk M d S B → j + n = M.c.cores.toNat → FaultOk M d S → Under M d S t → (∀ i, j ≤ i → i < M.c.cores.toNat → IdleAt M d S i t) → ClockOk M d S t j → ClockOk M d (So.worksAll M d t n j S) t (j + n)
  | 0, _, _, _, _, _, _, _, _, h => h
  | n + 1, j, S, B, hs, hj, hf, hu, hi, h => by
    unfold So.worksAll
    have := clock_worksAll hc t0 t1 n (j + 1) (hs.works hc (k := j) (by omega) t0 t1) (by omega) (fault_works hs (by omega) hf) (under_works hs (by omega) hu) (fun i h1 h2 => idle_works_other (by omega) (hi i (by omega) h2)) (clock_works hs (by omega) hf hu (hi j (Nat.le_refl _) (by omega)) h)
    rw [show j + (n + 1) = j + 1 + n by omega]
    exact this

theorem under_upto' {M : MDat} {d : Nat} (hc : chk M.c = 0) : ∀ (T : Nat), T ≤ 10000 → Under M d (So.upto M d T) ((T : Int) - 1)
  | 0, _ => fun k _ h => by
    have z : (List.replicate M.c.cores.toNat (0 : Int)).getD k 0 = 0 := by
      rw [List.getD_eq_getElem?_getD, List.getElem?_replicate]; split <;> rfl
    exact absurd z h
  | t + 1, h => by
    have hs := SoOk.upto (M := M) (d := d) hc t (by omega)
    have h1 := under_service (t := (t : Int)) hs (under_upto (d := d) hc t (by omega))
    have h2 := under_worksAll hc (by omega) (by omega) M.c.cores.toNat 0 (hs.service hc (by omega) (by omega)) (by omega) h1
    exact h2.mono (by omega)

/-- The events of the first T cycles are in time and in order; each was done before T. -/
theorem clock_upto {M : MDat} {d : Nat} (hc : chk M.c = 0) (hd : (d : Int) < M.c.domains) : ∀ (T : Nat), T ≤ 10000 → TimedOk M d (So.upto M d T).evs ∧ (∀ k, k < M.c.cores.toNat → (So.upto M d T).free.getD k 0 = freeOf k (So.upto M d T).evs) ∧ ∀ a, (So.upto M d T).evs.getLast? = some a → a.done < T
  | 0, _ => by
    have z : ∀ k, (List.replicate M.c.cores.toNat (0 : Int)).getD k 0 = 0 := fun k => by
      rw [List.getD_eq_getElem?_getD, List.getElem?_replicate]; split <;> rfl
    refine ⟨TimedOk.nil, fun k _ => z k, fun a ha => ?_⟩
    simp [So.upto, So.start] at ha
  | t + 1, h => by
    obtain ⟨i1, i2, i3⟩ := clock_upto (M := M) (d := d) hc hd t (by omega)
    have hs := SoOk.upto (M := M) (d := d) hc t (by omega)
    have c0 : ClockOk M d (So.upto M d t) (t : Int) 0 := ⟨i1, i2, fun a ha => Or.inl (i3 a ha)⟩
    have c1 := clock_service hs hc hd (by omega) (due_upto hc hd t (by omega)) (under_upto' hc t (by omega)) (idle_upto hc t (by omega)) c0 i3
    have c2 := clock_worksAll hc (by omega) (by omega) M.c.cores.toNat 0 (hs.service hc (by omega) (by omega)) (by omega) (fault_service hs (book_upto hc t (by omega)).1) (under_service hs (under_upto hc t (by omega))) (fun i _ hi => idle_service hs hi (idle_upto hc t (by omega) i hi)) c1
    refine ⟨c2.timed, c2.free, fun a ha => ?_⟩
    rcases c2.last a ha with g | g
    · omega
    · omega
end Go.Proofs.YtehheaedbnfidaaGreat

namespace Go.Proofs.YtehheaedbnfidaaGreat

/-- What is known of the core k. -/
def viewF (S : So) (k : Nat) : Int × Int × Int × Int := (S.how.getD k 0, S.next.getD k 0, S.free.getD k 0, S.began.getD k 0)

theorem view_works_other {M : MDat} {d : Nat} {S : So} {t : Int} {k j : Nat} (h : k ≠ j) : viewF (So.works M d j S t) k = viewF S k := by
  unfold viewF
  rw [(works_other h).1, (works_other h).2, works_next h, works_free_other h]

theorem worksAll_keep {M : MDat} {d : Nat} {t : Int} {k : Nat} : ∀ (n j : Nat) (S : So), k < j → viewF (So.worksAll M d t n j S) k = viewF S k
  | 0, _, _, _ => rfl
  | n + 1, j, S, h => by
    unfold So.worksAll
    rw [worksAll_keep n (j + 1) _ (by omega), view_works_other (by omega)]

theorem worksAll_view {M : MDat} {d : Nat} {t : Int} {k : Nat} (hc : chk M.c = 0) (t0 : 0 ≤ t) (t1 : t ≤ 10000) : ∀ (n j : Nat) (S : So) (B : Nat), SoOk M d S B → j + n ≤ M.c.cores.toNat → j ≤ k → k < j + n → ∃ S'' B', SoOk M d S'' B' ∧ viewF S'' k = viewF S k ∧ viewF (So.worksAll M d t n j S) k = viewF (So.works M d k S'' t) k
  | 0, j, S, _, _, _, h1, h2 => by omega
  | n + 1, j, S, B, hs, hj, h1, h2 => by
    unfold So.worksAll
    by_cases e : j = k
    · subst e
      exact ⟨S, B, hs, rfl, worksAll_keep n (j + 1) _ (by omega)⟩
    · obtain ⟨S'', B', g0, g1, g2⟩ := worksAll_view (k := k) hc t0 t1 n (j + 1) (So.works M d j S t) (B + 2) (hs.works hc (k := j) (by omega) t0 t1) (by omega) (by omega) (by omega)
      exact ⟨S'', B', g0, g1.trans (view_works_other (by omega)), g2⟩

theorem done_view {S : So} {k : Nat} {t v f : Int} (h1 : k < S.how.length) (h2 : k < S.next.length) (h3 : k < S.free.length) : viewF (S.done k t v f) k = (0, S.next.getD k 0 + 1, t + 1, S.began.getD k 0) := by
  unfold viewF
  have a : (S.done k t v f).how.getD k 0 = 0 := by show (S.how.set k 0).getD k 0 = 0; rw [getD_set h1, if_pos rfl]
  have b : (S.done k t v f).next.getD k 0 = S.next.getD k 0 + 1 := by show (S.next.set k (S.next.getD k 0 + 1)).getD k 0 = _; rw [getD_set h2, if_pos rfl]
  have c : (S.done k t v f).free.getD k 0 = t + 1 := by show (S.free.set k (t + 1)).getD k 0 = _; rw [getD_set h3, if_pos rfl]
  rw [a, b, c]
  rfl

theorem done_view_other {S : So} {k j : Nat} {t v f : Int} (h : k ≠ j) : viewF (S.done j t v f) k = viewF S k := by
  obtain ⟨a, b, c, e⟩ := done_all_other (S := S) (t := t) (v := v) (f := f) h
  unfold viewF
  rw [a, b, c, e]

theorem service_view {M : MDat} {d : Nat} {S : So} {B k : Nat} {t : Int} (hs : SoOk M d S B) (hk : k < M.c.cores.toNat) : viewF (So.service M d S t) k = viewF S k ∨ (S.how.getD k 0 = 1 ∧ viewF (So.service M d S t) k = (0, S.next.getD k 0 + 1, t + 1, S.began.getD k 0)) := by
  have l1 : k < S.how.length := by rw [hs.hl]; exact hk
  have l2 : k < S.next.length := by rw [hs.nl]; exact hk
  have l3 : k < S.free.length := by rw [hs.fl]; exact hk
  unfold So.service
  by_cases c1 : servesB M.c d t = true
  · rw [if_pos c1]
    unfold So.serve
    cases hq : S.queue with
    | nil => left; rfl
    | cons q r =>
      obtain ⟨j, rfl, _, hj1⟩ := hs.qu q (by rw [hq]; exact List.mem_cons_self ..)
      simp only [Int.toNat_natCast]
      split
      · split
        · by_cases e : k = j
          · subst e; exact Or.inr ⟨hj1, done_view l1 l2 l3⟩
          · exact Or.inl (done_view_other e)
        · by_cases e : k = j
          · subst e; exact Or.inr ⟨hj1, done_view l1 l2 l3⟩
          · exact Or.inl (done_view_other e)
      · split
        · split
          · left; rfl
          · left; rfl
        · left; rfl
  · rw [if_neg c1]; left; rfl

/-- The core k in the cycle t: what is under way goes on or is done; what may begin begins. -/
theorem works_view {M : MDat} {d : Nat} {S : So} {B k : Nat} {t : Int} (hs : SoOk M d S B) (hk : k < M.c.cores.toNat) :
    (viewF (So.works M d k S t) k = viewF S k ∨ (viewF (So.works M d k S t) k).2.1 = S.next.getD k 0 + 1 ∨ (S.how.getD k 0 = 0 ∧ (viewF (So.works M d k S t) k).2.1 = S.next.getD k 0)) ∧
    (S.how.getD k 0 = 0 → S.free.getD k 0 ≤ t → S.next.getD k 0 < (progF M d k).length → openB M.c k d t = true → (viewF (So.works M d k S t) k).2.1 = S.next.getD k 0 + 1 ∨ ((viewF (So.works M d k S t) k).2.1 = S.next.getD k 0 ∧ (viewF (So.works M d k S t) k).1 ≠ 0 ∧ (viewF (So.works M d k S t) k).2.2.2 = t)) := by
  have l1 : k < S.how.length := by rw [hs.hl]; exact hk
  have l2 : k < S.next.length := by rw [hs.nl]; exact hk
  have l3 : k < S.free.length := by rw [hs.fl]; exact hk
  have l4 : k < S.began.length := by rw [hs.bl]; exact hk
  unfold So.works
  by_cases c1 : S.how.getD k 0 = 2 ∧ t = S.began.getD k 0 + 2
  · rw [if_pos c1, done_view l1 l2 l3]
    exact ⟨Or.inr (Or.inl rfl), fun h0 => by omega⟩
  · rw [if_neg c1]
    by_cases c2 : S.how.getD k 0 ≠ 0 ∨ t < S.free.getD k 0 ∨ ((progF M d k).length : Int) ≤ S.next.getD k 0 ∨ openB M.c k d t = false
    · rw [if_pos c2]
      refine ⟨Or.inl rfl, fun h0 h1 h2 h3 => ?_⟩
      rcases c2 with c2 | c2 | c2 | c2
      · exact absurd h0 c2
      · omega
      · omega
      · rw [h3] at c2; exact absurd c2 (by simp)
    · rw [if_neg c2]
      have h0 : S.how.getD k 0 = 0 := by omega
      have eb : (S.began.set k t).getD k 0 = t := by rw [getD_set l4, if_pos rfl]
      have key : (viewF (So.begin M d k S t) k).2.1 = S.next.getD k 0 + 1 ∨ ((viewF (So.begin M d k S t) k).2.1 = S.next.getD k 0 ∧ (viewF (So.begin M d k S t) k).1 ≠ 0 ∧ (viewF (So.begin M d k S t) k).2.2.2 = t) := by
        unfold So.begin
        by_cases d1 : faultF M.c (opAt M d k S) ≠ 0
        · simp only [if_pos d1]
          right
          refine ⟨rfl, ?_, eb⟩
          show (S.how.set k 2).getD k 0 ≠ 0
          rw [getD_set l1, if_pos rfl]; omega
        · simp only [if_neg d1]
          by_cases d2 : stateF M.c k ((opAt M d k S).2.1 / M.c.line) t false S.log = 0 ∨ ((opAt M d k S).1 = 1 ∧ stateF M.c k ((opAt M d k S).2.1 / M.c.line) t false S.log = 1)
          · simp only [if_pos d2]
            right
            refine ⟨rfl, ?_, eb⟩
            show (S.how.set k 1).getD k 0 ≠ 0
            rw [getD_set l1, if_pos rfl]; omega
          · simp only [if_neg d2]
            left
            by_cases d3 : (opAt M d k S).1 = 1
            · simp only [if_pos d3]
              have dn : ∀ (S' : So) (v : Int), S'.how = S.how → S'.next = S.next → S'.free = S.free → (viewF (S'.done k t v 0) k).2.1 = S.next.getD k 0 + 1 := fun S' v e1 e2 e3 => by
                rw [done_view (by rw [e1]; exact l1) (by rw [e2]; exact l2) (by rw [e3]; exact l3), e2]
              exact dn _ _ rfl rfl rfl
            · simp only [if_neg d3]
              rw [done_view (S := { S with began := S.began.set k t }) l1 l2 l3]
      refine ⟨?_, fun _ _ _ _ => key⟩
      rcases key with g | ⟨g, _⟩
      · exact Or.inr (Or.inl g)
      · exact Or.inr (Or.inr ⟨h0, g⟩)

/-- One cycle, at the core k. -/
theorem cycle_view {M : MDat} {d : Nat} {S : So} {B k : Nat} {t : Int} (hc : chk M.c = 0) (hs : SoOk M d S B) (hk : k < M.c.cores.toNat) (t0 : 0 ≤ t) (t1 : t ≤ 10000) :
    S.next.getD k 0 ≤ (So.cycle M d S t).next.getD k 0 ∧
    (S.how.getD k 0 ≠ 0 → (So.cycle M d S t).next.getD k 0 = S.next.getD k 0 → (So.cycle M d S t).how.getD k 0 ≠ 0 ∧ (So.cycle M d S t).began.getD k 0 = S.began.getD k 0) ∧
    (S.how.getD k 0 = 0 → S.free.getD k 0 ≤ t → S.next.getD k 0 < (progF M d k).length → openB M.c k d t = true → (So.cycle M d S t).next.getD k 0 = S.next.getD k 0 → (So.cycle M d S t).how.getD k 0 ≠ 0 ∧ (So.cycle M d S t).began.getD k 0 = t) := by
  obtain ⟨S'', B', g0, g1, g2⟩ := worksAll_view (k := k) hc t0 t1 M.c.cores.toNat 0 (So.service M d S t) (B + 3) (hs.service hc t0 t1) (by omega) (by omega) (by omega)
  have g2' : viewF (So.cycle M d S t) k = viewF (So.works M d k S'' t) k := g2
  obtain ⟨w1, w2⟩ := works_view (t := t) g0 hk
  rw [← g2'] at w1 w2
  have v1 : S''.how.getD k 0 = (viewF (So.service M d S t) k).1 := by rw [← g1]; rfl
  have v2 : S''.next.getD k 0 = (viewF (So.service M d S t) k).2.1 := by rw [← g1]; rfl
  have v3 : S''.free.getD k 0 = (viewF (So.service M d S t) k).2.2.1 := by rw [← g1]; rfl
  have v4 : S''.began.getD k 0 = (viewF (So.service M d S t) k).2.2.2 := by rw [← g1]; rfl
  have c1 : (viewF (So.cycle M d S t) k).1 = (So.cycle M d S t).how.getD k 0 := rfl
  have c2 : (viewF (So.cycle M d S t) k).2.1 = (So.cycle M d S t).next.getD k 0 := rfl
  have c4 : (viewF (So.cycle M d S t) k).2.2.2 = (So.cycle M d S t).began.getD k 0 := rfl
  rcases service_view (t := t) hs hk with sv | ⟨sv1, sv2⟩
  · rw [sv] at v1 v2 v3 v4
    have v1' : S''.how.getD k 0 = S.how.getD k 0 := v1
    have v2' : S''.next.getD k 0 = S.next.getD k 0 := v2
    have v3' : S''.free.getD k 0 = S.free.getD k 0 := v3
    have v4' : S''.began.getD k 0 = S.began.getD k 0 := v4
    rw [v1', v2', v3'] at w2
    rw [v1', v2'] at w1
    refine ⟨?_, fun h1 h2 => ?_, fun h1 h2 h3 h4 h5 => ?_⟩
    · rcases w1 with w | w | w
      · have : (viewF (So.cycle M d S t) k).2.1 = S''.next.getD k 0 := by rw [w]; rfl
        omega
      · omega
      · omega
    · rcases w1 with w | w | w
      · have e1 : (viewF (So.cycle M d S t) k).1 = S''.how.getD k 0 := by rw [w]; rfl
        have e2 : (viewF (So.cycle M d S t) k).2.2.2 = S''.began.getD k 0 := by rw [w]; rfl
        refine ⟨?_, by omega⟩
        rw [← c1, e1, v1']
        exact h1
      · omega
      · exact absurd w.1 h1
    · rcases w2 h1 h2 h3 h4 with w | ⟨_, wa, wb⟩
      · omega
      · exact ⟨by rw [← c1]; exact wa, by rw [← c4]; exact wb⟩
  · rw [sv2] at v1 v2 v3 v4
    simp only at v1 v2 v3 v4
    have up : S.next.getD k 0 + 1 ≤ (So.cycle M d S t).next.getD k 0 := by
      rcases w1 with w | w | w
      · have : (viewF (So.cycle M d S t) k).2.1 = S''.next.getD k 0 := by rw [w]; rfl
        omega
      · omega
      · omega
    exact ⟨by omega, fun _ h2 => by omega, fun h1 => by omega⟩
end Go.Proofs.YtehheaedbnfidaaGreat

namespace Go.Proofs.YtehheaedbnfidaaGreat

def nextAt (M : MDat) (d k T : Nat) : Int := (So.upto M d T).next.getD k 0

def FreeLe (S : So) (t : Int) : Prop := ∀ k, S.free.getD k 0 ≤ t

theorem free_done {S : So} {k : Nat} {t v f : Int} (h : FreeLe S (t + 1)) : FreeLe (S.done k t v f) (t + 1) := fun j => by
  show (S.free.set k (t + 1)).getD j 0 ≤ t + 1
  rw [List.getD_eq_getElem?_getD, List.getElem?_set]
  have := h j
  rw [List.getD_eq_getElem?_getD] at this
  split
  · split
    · simp
    · rename_i e g
      subst e
      rw [List.getElem?_eq_none (by omega)] at this
      simpa using this
  · exact this

theorem free_service {M : MDat} {d : Nat} {S : So} {t : Int} (h : FreeLe S (t + 1)) : FreeLe (So.service M d S t) (t + 1) := by
  have hd : ∀ (S' : So) (k : Nat) (v f : Int), S'.free = S.free → FreeLe (S'.done k t v f) (t + 1) := fun S' k v f e => free_done (by unfold FreeLe; rw [e]; exact h)
  unfold So.service
  by_cases c1 : servesB M.c d t = true
  · rw [if_pos c1]
    unfold So.serve
    cases hq : S.queue with
    | nil => exact h
    | cons q r =>
      simp only
      split
      · split
        · exact hd _ _ _ _ rfl
        · exact hd _ _ _ _ rfl
      · split
        · split
          · exact h
          · exact h
        · exact h
  · rw [if_neg c1]; exact h

theorem free_works {M : MDat} {d k : Nat} {S : So} {t : Int} (h : FreeLe S (t + 1)) : FreeLe (So.works M d k S t) (t + 1) := by
  have hd : ∀ (S' : So) (v f : Int), S'.free = S.free → FreeLe (S'.done k t v f) (t + 1) := fun S' v f e => free_done (by unfold FreeLe; rw [e]; exact h)
  unfold So.works
  by_cases c1 : S.how.getD k 0 = 2 ∧ t = S.began.getD k 0 + 2
  · rw [if_pos c1]; exact hd _ _ _ rfl
  · rw [if_neg c1]
    by_cases c2 : S.how.getD k 0 ≠ 0 ∨ t < S.free.getD k 0 ∨ ((progF M d k).length : Int) ≤ S.next.getD k 0 ∨ openB M.c k d t = false
    · rw [if_pos c2]; exact h
    · rw [if_neg c2]
      unfold So.begin
      by_cases d1 : faultF M.c (opAt M d k S) ≠ 0
      · simp only [if_pos d1]; exact h
      · simp only [if_neg d1]
        by_cases d2 : stateF M.c k ((opAt M d k S).2.1 / M.c.line) t false S.log = 0 ∨ ((opAt M d k S).1 = 1 ∧ stateF M.c k ((opAt M d k S).2.1 / M.c.line) t false S.log = 1)
        · simp only [if_pos d2]; exact h
        · simp only [if_neg d2]
          by_cases d3 : (opAt M d k S).1 = 1
          · simp only [if_pos d3]; exact hd _ _ _ rfl
          · simp only [if_neg d3]; exact hd _ _ _ rfl

theorem free_worksAll {M : MDat} {d : Nat} {t : Int} : ∀ (n j : Nat) (S : So), FreeLe S (t + 1) → FreeLe (So.worksAll M d t n j S) (t + 1)
  | 0, _, _, h => h
  | n + 1, j, S, h => by
    unfold So.worksAll
    exact free_worksAll n (j + 1) _ (free_works h)

theorem free_upto {M : MDat} {d : Nat} : ∀ (T : Nat), FreeLe (So.upto M d T) T
  | 0 => fun k => by
    have z : (List.replicate M.c.cores.toNat (0 : Int)).getD k 0 = 0 := by
      rw [List.getD_eq_getElem?_getD, List.getElem?_replicate]; split <;> rfl
    have : (So.upto M d 0).free.getD k 0 = 0 := z
    omega
  | t + 1 => by
    have := free_worksAll (M := M) (d := d) (t := (t : Int)) M.c.cores.toNat 0 _ (free_service (M := M) (d := d) (S := So.upto M d t) (fun k => by have := free_upto (M := M) (d := d) t k; omega))
    exact this

theorem next_step {M : MDat} {d k : Nat} (hc : chk M.c = 0) (hk : k < M.c.cores.toNat) (T : Nat) (hT : T + 1 ≤ 10000) : nextAt M d k T ≤ nextAt M d k (T + 1) :=
  (cycle_view hc (SoOk.upto (d := d) hc T (by omega)) hk (by omega) (by omega)).1

theorem next_mono {M : MDat} {d k : Nat} (hc : chk M.c = 0) (hk : k < M.c.cores.toNat) (T : Nat) : ∀ (n : Nat), T + n ≤ 10000 → nextAt M d k T ≤ nextAt M d k (T + n)
  | 0, _ => Int.le_refl _
  | n + 1, h => by
    have := next_mono (d := d) hc hk T n (by omega)
    have := next_step (d := d) hc hk (T + n) (by omega)
    rw [show T + n + 1 = T + (n + 1) by omega] at this
    omega

/-- What is under way and not done stays under way. -/
theorem stuck {M : MDat} {d k : Nat} (hc : chk M.c = 0) (hk : k < M.c.cores.toNat) (T : Nat) (h0 : (So.upto M d T).how.getD k 0 ≠ 0) : ∀ (n : Nat), T + n ≤ 10000 → nextAt M d k (T + n) = nextAt M d k T → (So.upto M d (T + n)).how.getD k 0 ≠ 0 ∧ (So.upto M d (T + n)).began.getD k 0 = (So.upto M d T).began.getD k 0
  | 0, _, _ => ⟨h0, rfl⟩
  | n + 1, h, he => by
    have m1 := next_mono (d := d) hc hk T n (by omega)
    have m2 := next_step (d := d) hc hk (T + n) (by omega)
    rw [show T + n + 1 = T + (n + 1) by omega] at m2
    obtain ⟨i1, i2⟩ := stuck hc hk T h0 n (by omega) (by omega)
    have := (cycle_view (t := ((T + n : Nat) : Int)) hc (SoOk.upto (d := d) hc (T + n) (by omega)) hk (by omega) (by omega)).2.1 i1 (by
      show nextAt M d k (T + n + 1) = nextAt M d k (T + n)
      rw [show T + n + 1 = T + (n + 1) by omega]
      omega)
    exact ⟨this.1, this.2.trans i2⟩

/-- An open cycle: W + 1 cycles later an operation more is done. -/
theorem one_more {M : MDat} {d k T w : Nat} (hc : chk M.c = 0) (hd : (d : Int) < M.c.domains) (hk : k < M.c.cores.toNat) (hw : (w : Int) = worstZ M.c) (hT : T + w + 1 ≤ 10000) (ho : openB M.c k d T = true) (hn : nextAt M d k T < (progF M d k).length) : nextAt M d k T + 1 ≤ nextAt M d k (T + w + 1) := by
  have m := next_mono (d := d) hc hk T (w + 1) (by omega)
  rw [show T + (w + 1) = T + w + 1 by omega] at m
  by_cases e : nextAt M d k (T + w + 1) = nextAt M d k T
  · exfalso
    by_cases h0 : (So.upto M d T).how.getD k 0 = 0
    · have m1 := next_step (d := d) hc hk T (by omega)
      have m2 := next_mono (d := d) hc hk (T + 1) w (by omega)
      rw [show T + 1 + w = T + w + 1 by omega] at m2
      have hs := SoOk.upto (M := M) (d := d) hc T (by omega)
      obtain ⟨a1, a2⟩ := (cycle_view (t := (T : Int)) hc hs hk (by omega) (by omega)).2.2 h0 (free_upto T k) hn ho (by
        show nextAt M d k (T + 1) = nextAt M d k T
        omega)
      obtain ⟨b1, b2⟩ := stuck (M := M) (d := d) hc hk (T + 1) a1 w (by omega) (by rw [show T + 1 + w = T + w + 1 by omega]; omega)
      rw [show T + 1 + w = T + w + 1 by omega] at b1 b2
      have u := (under_turn hc hd (by omega) hk b1).1
      have a2' : (So.upto M d (T + 1)).began.getD k 0 = T := a2
      omega
    · obtain ⟨b1, b2⟩ := stuck (M := M) (d := d) hc hk T h0 (w + 1) (by omega) (by rw [show T + (w + 1) = T + w + 1 by omega]; omega)
      rw [show T + (w + 1) = T + w + 1 by omega] at b1 b2
      have u := (under_turn hc hd (by omega) hk b1).1
      have v := (under_upto' (d := d) hc T (by omega) k hk h0).2.1
      omega
  · omega

/-- Within one turn of d at k, which begins with the cycle T: i operations. -/
theorem turn_more {M : MDat} {d k T w : Nat} {q : Int} (hc : chk M.c = 0) (hd : (d : Int) < M.c.domains) (hk : k < M.c.cores.toNat) (hw : (w : Int) = worstZ M.c) (hq : turnIs M.c k d q = true) (hTq : (T : Int) = q * M.c.quantum) :
    ∀ (i : Nat), (i : Int) * (w + 1) ≤ M.c.quantum - M.c.flush - worstZ M.c + w → T + i * (w + 1) ≤ 10000 → nextAt M d k T + i ≤ nextAt M d k (T + i * (w + 1)) ∨ ((progF M d k).length : Int) ≤ nextAt M d k (T + i * (w + 1))
  | 0, _, _ => by left; simp
  | i + 1, h, hT => by
    have e1 : ((i + 1 : Nat) : Int) * ((w : Int) + 1) = (i : Int) * (w + 1) + (w + 1) := by
      rw [show ((i + 1 : Nat) : Int) = (i : Int) + 1 by omega, Int.add_mul, Int.one_mul]
    have e2 : (i + 1) * (w + 1) = i * (w + 1) + (w + 1) := Nat.succ_mul i (w + 1)
    rw [e1] at h
    rw [e2] at hT
    have R := right_of hc
    have w0 := R.w0
    have f1 := R.f1
    have q1 := R.q1
    have ih := turn_more (d := d) hc hd hk hw hq hTq i (by omega) (by omega)
    have m := next_mono (d := d) hc hk (T + i * (w + 1)) (w + 1) (by omega)
    rw [show T + i * (w + 1) + (w + 1) = T + (i + 1) * (w + 1) by omega] at m
    rcases ih with ih | ih
    · by_cases g : nextAt M d k (T + i * (w + 1)) < (progF M d k).length
      · have ho : openB M.c k d ((T + i * (w + 1) : Nat) : Int) = true := by
          have c1 : ((T + i * (w + 1) : Nat) : Int) = (i : Int) * (w + 1) + q * M.c.quantum := by
            rw [Int.natCast_add, Int.natCast_mul, hTq, show ((w + 1 : Nat) : Int) = (w : Int) + 1 by omega, Int.add_comm]
          have i0 : 0 ≤ (i : Int) * ((w : Int) + 1) := Int.mul_nonneg (by omega) (by omega)
          unfold openB turnZ
          rw [c1, Int.add_mul_ediv_right _ _ (by omega), Int.add_mul_emod_self_right, Int.ediv_eq_zero_of_lt i0 (by omega), Int.emod_eq_of_lt i0 (by omega), Int.zero_add]
          unfold turnIs at hq
          rw [hq, decide_eq_true (by omega), decide_eq_true (by omega)]
          rfl
        have := one_more (d := d) hc hd hk hw (by omega) ho g
        rw [show T + i * (w + 1) + w + 1 = T + (i + 1) * (w + 1) by omega] at this
        left
        omega
      · right; omega
    · right; omega

/-- G: how many operations a turn has room for. -/
theorem turn_whole {M : MDat} {d k T g w : Nat} {q : Int} (hc : chk M.c = 0) (hd : (d : Int) < M.c.domains) (hk : k < M.c.cores.toNat) (hw : (w : Int) = worstZ M.c) (hq : turnIs M.c k d q = true) (hTq : (T : Int) = q * M.c.quantum) (Q : Nat) (hQ : (Q : Int) = M.c.quantum)
    (hg : (g : Int) = 1 + (M.c.quantum - M.c.flush - worstZ M.c - 1) / (worstZ M.c + 1)) (hT : T + Q ≤ 10000) : nextAt M d k T + g ≤ nextAt M d k (T + Q) ∨ ((progF M d k).length : Int) ≤ nextAt M d k (T + Q) := by
  have R := right_of hc
  have w0 := R.w0
  have f1 := R.f1
  have q1 := R.q1
  have e := Int.mul_ediv_add_emod (M.c.quantum - M.c.flush - worstZ M.c - 1) (worstZ M.c + 1)
  have r0 := Int.emod_nonneg (M.c.quantum - M.c.flush - worstZ M.c - 1) (show worstZ M.c + 1 ≠ 0 by omega)
  have e2 : (g : Int) * (w + 1) = (worstZ M.c + 1) * ((M.c.quantum - M.c.flush - worstZ M.c - 1) / (worstZ M.c + 1)) + (worstZ M.c + 1) := by
    rw [hg, hw, Int.add_mul, Int.one_mul, Int.mul_comm]
    omega
  have e3 : ((g * (w + 1) : Nat) : Int) = (g : Int) * (w + 1) := by rw [Int.natCast_mul]; rfl
  have hle : g * (w + 1) ≤ Q := by omega
  have h := turn_more (d := d) hc hd hk hw hq hTq g (by omega) (by omega)
  have m := next_mono (d := d) hc hk (T + g * (w + 1)) (Q - g * (w + 1)) (by omega)
  rw [show T + g * (w + 1) + (Q - g * (w + 1)) = T + Q by omega] at m
  rcases h with h | h
  · left; omega
  · right; omega

/-- In r whole rounds of turns r times G operations, or all. -/
theorem rounds_done {M : MDat} {d k g Q n : Nat} (hc : chk M.c = 0) (hd : (d : Int) < M.c.domains) (hk : k < M.c.cores.toNat) (hQ : (Q : Int) = M.c.quantum) (hg : (g : Int) = 1 + (M.c.quantum - M.c.flush - worstZ M.c - 1) / (worstZ M.c + 1)) (hn : (rowOf M.c k).length = n) (hin : (d : Int) ∈ rowOf M.c k) :
    ∀ (r : Nat), r * (n * Q) ≤ 10000 → ((r * g : Nat) : Int) ≤ nextAt M d k (r * (n * Q)) ∨ ((progF M d k).length : Int) ≤ nextAt M d k (r * (n * Q))
  | 0, _ => by
    left
    have := ((SoOk.upto (M := M) (d := d) hc 0 (by omega)).nx k hk).1
    show _ ≤ nextAt M d k _
    rw [Nat.zero_mul, Nat.zero_mul]
    exact this
  | r + 1, h => by
    have e1 : (r + 1) * (n * Q) = r * (n * Q) + n * Q := Nat.succ_mul ..
    rw [e1] at h ⊢
    have ih := rounds_done (d := d) hc hd hk hQ hg hn hin r (by omega)
    obtain ⟨p, hp, hpe⟩ := List.getElem_of_mem hin
    obtain ⟨w, hw⟩ := Int.eq_ofNat_of_zero_le (right_of hc).w0
    have hp' : p < n := by omega
    have hpQ : (p + 1) * Q ≤ n * Q := Nat.mul_le_mul_right _ hp'
    rw [Nat.succ_mul] at hpQ
    have ht : turnIs M.c k d (((r * n + p : Nat) : Int)) = true := by
      unfold turnIs
      rw [hn, ← Int.natCast_emod, Int.toNat_natCast, Nat.mul_comm r n, Nat.mul_add_mod, Nat.mod_eq_of_lt hp', List.getD_eq_getElem?_getD, List.getElem?_eq_getElem hp, hpe]
      simp
    have hT : ((r * (n * Q) + p * Q : Nat) : Int) = ((r * n + p : Nat) : Int) * M.c.quantum := by
      rw [← hQ, ← Int.natCast_mul, Nat.add_mul, Nat.mul_assoc]
    have m0 := next_mono (d := d) hc hk (r * (n * Q)) (p * Q) (by omega)
    have tw := turn_whole (d := d) hc hd hk hw.symm ht hT Q hQ hg (by omega)
    have m1 := next_mono (d := d) hc hk (r * (n * Q) + p * Q + Q) (n * Q - (p * Q + Q)) (by omega)
    rw [show r * (n * Q) + p * Q + Q + (n * Q - (p * Q + Q)) = r * (n * Q) + n * Q by omega] at m1
    have e2 : (r + 1) * g = r * g + g := Nat.succ_mul ..
    rw [e2]
    rcases ih with ih | ih
    · rcases tw with tw | tw
      · left; omega
      · right; omega
    · right; omega
end Go.Proofs.YtehheaedbnfidaaGreat

namespace Go.Proofs.YtehheaedbnfidaaGreat

/-- The line of an event. -/
def lineF (M : MDat) (d : Nat) (e : Ev) : Int := (opOf M d e).2.1 / M.c.line

/-- What was handed to a core or stored by it belongs to an event. -/
def LogEv (M : MDat) (d : Nat) (S : So) : Prop := ∀ e ∈ S.log, (e.what = 3 ∨ e.what = 4) → ∃ v ∈ S.evs, v.core = e.core ∧ v.fault = 0 ∧ faultF M.c (opOf M d v) = 0 ∧ lineF M d v = e.line ∧ v.done = e.t

/-- A near copy comes from an entry of this core and line, with no flush since. -/
theorem state_entry {c : Cf} {core x t : Int} : ∀ {lw : Bool} {log : List Ent}, stateF c core x t lw log ≠ 0 → ∃ e ∈ log, (e.what = 3 ∨ e.what = 4) ∧ e.core = core ∧ e.line = x ∧ flushedB c e.t t = false
  | _, [], h => by simp [stateF] at h
  | lw, e :: r, h => by
    have up : (∃ e' ∈ r, (e'.what = 3 ∨ e'.what = 4) ∧ e'.core = core ∧ e'.line = x ∧ flushedB c e'.t t = false) → ∃ e' ∈ e :: r, (e'.what = 3 ∨ e'.what = 4) ∧ e'.core = core ∧ e'.line = x ∧ flushedB c e'.t t = false := fun ⟨e', h1, h2⟩ => ⟨e', List.mem_cons_of_mem _ h1, h2⟩
    unfold stateF at h
    by_cases h0 : flushedB c e.t t = true
    · rw [if_pos h0] at h; exact absurd rfl h
    rw [if_neg h0] at h
    have h0' : flushedB c e.t t = false := by simpa using h0
    split at h
    · exact absurd rfl h
    split at h
    · exact absurd rfl h
    split at h
    · exact absurd rfl h
    split at h
    · exact up (state_entry h)
    split at h
    · rename_i g
      simp only [Bool.and_eq_true, beq_iff_eq] at g
      exact ⟨e, List.mem_cons_self .., Or.inr g.1.1.1, g.1.1.2, g.1.2, h0'⟩
    split at h
    · rename_i g
      simp only [Bool.and_eq_true, beq_iff_eq] at g
      exact ⟨e, List.mem_cons_self .., Or.inl g.1.1.1.1, g.1.1.1.2, g.1.1.2, h0'⟩
    split at h
    · rename_i g
      simp only [Bool.and_eq_true, Bool.or_eq_true, beq_iff_eq] at g
      exact ⟨e, List.mem_cons_self .., g.1.1, g.1.2, g.2, h0'⟩
    · exact up (state_entry h)

theorem LogEv.told {M : MDat} {d : Nat} {S : So} {e : Ent} (h : LogEv M d S) (h3 : e.what ≠ 3) (h4 : e.what ≠ 4) : LogEv M d (S.told e) := fun x hx hw => by
  rcases List.mem_cons.1 hx with g | g
  · subst g; rcases hw with hw | hw
    · exact absurd hw h3
    · exact absurd hw h4
  · exact h x g hw

/-- An operation that is no fault is done: the new entries are its own. -/
theorem logev_done {M : MDat} {d : Nat} {S S' : So} {k : Nat} {t v : Int} (h : LogEv M d S) (e1 : S'.evs = S.evs) (e2 : S'.next = S.next) (hf : faultF M.c (opAt M d k S) = 0)
    (hl : ∀ e ∈ S'.log, e ∈ S.log ∨ (e.core = k ∧ e.line = (opAt M d k S).2.1 / M.c.line ∧ e.t = t)) : LogEv M d (S'.done k t v 0) := by
  have ev : (S'.done k t v 0).evs = S.evs ++ [⟨k, S.next.getD k 0, v, 0, S'.began.getD k 0, t⟩] := by
    show S'.evs ++ [⟨k, S'.next.getD k 0, v, 0, S'.began.getD k 0, t⟩] = _
    rw [e1, e2]
  have op : opOf M d ⟨k, S.next.getD k 0, v, 0, S'.began.getD k 0, t⟩ = opAt M d k S := by
    unfold opOf opAt
    simp only [Int.toNat_natCast]
  intro e he hw
  rw [ev]
  rcases hl e he with g | ⟨g1, g2, g3⟩
  · obtain ⟨x, hx, hh⟩ := h e g hw
    exact ⟨x, List.mem_append.2 (Or.inl hx), hh⟩
  · refine ⟨_, List.mem_append.2 (Or.inr (List.mem_singleton.2 rfl)), g1.symm, rfl, by rw [op]; exact hf, ?_, g3.symm⟩
    unfold lineF
    rw [op, g2]

theorem LogEv.more {M : MDat} {d : Nat} {S S' : So} (h : LogEv M d S) (e1 : S'.log = S.log) (e2 : ∀ v ∈ S.evs, v ∈ S'.evs) : LogEv M d S' := fun e he hw => by
  rw [e1] at he
  obtain ⟨x, hx, hh⟩ := h e he hw
  exact ⟨x, e2 x hx, hh⟩

theorem logev_service {M : MDat} {d : Nat} {S : So} {B : Nat} {t : Int} (hs : SoOk M d S B) (h : LogEv M d S) : LogEv M d (So.service M d S t) := by
  unfold So.service
  by_cases c1 : servesB M.c d t = true
  · rw [if_pos c1]
    cases hq : S.queue with
    | nil =>
      have : So.serve M d S t = S := by unfold So.serve; rw [hq]
      rw [this]; exact h
    | cons q r =>
      obtain ⟨k, rfl, hk, hk1⟩ := hs.qu q (by rw [hq]; exact List.mem_cons_self ..)
      have hf := hs.w1 k hk hk1
      rcases ho : opAt M d k S with ⟨okd, oad, ovl⟩
      by_cases hw : 0 ≤ whereF (oad / M.c.line) S.log
      · by_cases hkd : okd = 1
        · subst hkd
          rw [serve_store hq ho rfl hw]
          refine logev_done h rfl rfl hf (fun e he => ?_)
          rw [ho]
          rcases List.mem_cons.1 he with g | g
          · subst g; exact Or.inr ⟨rfl, rfl, rfl⟩
          · rcases List.mem_cons.1 g with g | g
            · subst g; exact Or.inr ⟨rfl, rfl, rfl⟩
            · exact Or.inl g
        · rw [serve_load hq ho hkd rfl hw]
          refine logev_done h rfl rfl hf (fun e he => ?_)
          rw [ho]
          rcases List.mem_cons.1 he with g | g
          · subst g; exact Or.inr ⟨rfl, rfl, rfl⟩
          · exact Or.inl g
      · obtain ⟨way, hcw⟩ : ∃ way, chosenF M.c (M.c.ways.count (d : Int)) (oad / M.c.line % M.c.sets) S.log = way := ⟨_, rfl⟩
        obtain ⟨y, hy⟩ : ∃ y, liesF M.c (oad / M.c.line % M.c.sets) way S.log = y := ⟨_, rfl⟩
        by_cases h0 : 0 ≤ y
        · cases hm : markedF y S.log with
          | true => rw [serve_gone hq ho rfl hw hcw hy h0 hm]; exact h.told (by simp) (by simp)
          | false => rw [serve_both hq ho rfl hw hcw hy h0 hm]; exact (h.told (by simp) (by simp)).told (by simp) (by simp)
        · rw [serve_fill hq ho rfl hw hcw hy h0]; exact h.told (by simp) (by simp)
  · rw [if_neg c1]; exact h

theorem logev_works {M : MDat} {d k : Nat} {S : So} {t : Int} (h : LogEv M d S) : LogEv M d (So.works M d k S t) := by
  unfold So.works
  by_cases c1 : S.how.getD k 0 = 2 ∧ t = S.began.getD k 0 + 2
  · rw [if_pos c1]
    exact h.more rfl (fun v hv => List.mem_append.2 (Or.inl hv))
  · rw [if_neg c1]
    by_cases c2 : S.how.getD k 0 ≠ 0 ∨ t < S.free.getD k 0 ∨ ((progF M d k).length : Int) ≤ S.next.getD k 0 ∨ openB M.c k d t = false
    · rw [if_pos c2]; exact h
    · rw [if_neg c2]
      unfold So.begin
      by_cases d1 : faultF M.c (opAt M d k S) ≠ 0
      · simp only [if_pos d1]; exact h
      · simp only [if_neg d1]
        have hf : faultF M.c (opAt M d k S) = 0 := by omega
        by_cases d2 : stateF M.c k ((opAt M d k S).2.1 / M.c.line) t false S.log = 0 ∨ ((opAt M d k S).1 = 1 ∧ stateF M.c k ((opAt M d k S).2.1 / M.c.line) t false S.log = 1)
        · simp only [if_pos d2]; exact h
        · simp only [if_neg d2]
          by_cases d3 : (opAt M d k S).1 = 1
          · simp only [if_pos d3]
            refine logev_done (S := S) h rfl rfl hf (fun e he => ?_)
            rcases List.mem_cons.1 he with g | g
            · subst g; exact Or.inr ⟨rfl, rfl, rfl⟩
            · exact Or.inl g
          · simp only [if_neg d3]
            exact logev_done (S := S) h rfl rfl hf (fun e he => Or.inl he)

theorem logev_worksAll {M : MDat} {d : Nat} {t : Int} : ∀ (n j : Nat) (S : So), LogEv M d S → LogEv M d (So.worksAll M d t n j S)
  | 0, _, _, h => h
  | n + 1, j, S, h => by
    unfold So.worksAll
    exact logev_worksAll n (j + 1) _ (logev_works h)

theorem logev_upto {M : MDat} {d : Nat} (hc : chk M.c = 0) : ∀ (T : Nat), T ≤ 10000 → LogEv M d (So.upto M d T)
  | 0, _ => fun e he => by simp [So.upto, So.start] at he
  | t + 1, h => logev_worksAll _ _ _ (logev_service (SoOk.upto (M := M) (d := d) hc t (by omega)) (logev_upto hc t (by omega)))

/-- What was done ahead of the flush and what comes with no flush between are of one turn. -/
theorem same_turn {c : Cf} {s t : Int} (R : Right c) (h1 : s % c.quantum < c.quantum - c.flush) (h2 : s ≤ t) (h : flushedB c s t = false) : s / c.quantum = t / c.quantum := by
  have q1 := R.q1
  have w0 := R.w0
  have f1 := R.f1
  have e := Int.mul_ediv_add_emod s c.quantum
  rw [Int.mul_comm] at e
  have lt : t < flushAt c s := by
    unfold flushedB at h
    by_cases g : t < flushAt c s
    · exact g
    · rw [if_neg g, if_pos (by unfold flushAt; omega)] at h
      exact absurd h (by simp)
  unfold flushAt at lt
  have e2 : (s / c.quantum + 1) * c.quantum = s / c.quantum * c.quantum + c.quantum := by rw [Int.add_mul, Int.one_mul]
  have l1 : s / c.quantum ≤ t / c.quantum := Int.ediv_le_ediv (by omega) h2
  have l2 : t / c.quantum < s / c.quantum + 1 := Int.ediv_lt_of_lt_mul (by omega) (by omega)
  omega
end Go.Proofs.YtehheaedbnfidaaGreat

namespace Go.Proofs.YtehheaedbnfidaaGreat

/-- The domain has a program at the core k alone. -/
def Alone (M : MDat) (d k : Nat) : Prop := ∀ j, j < M.c.cores.toNat → j ≠ k → progF M d j = []

theorem readok_core {M : MDat} {d : Nat} {evs : List Ev} (h : ReadOk M d evs) : ∀ v ∈ evs, ∃ j : Nat, v.core = j ∧ j < M.c.cores.toNat ∧ 0 < (progF M d j).length := by
  induction h with
  | nil => intro v hv; simp at hv
  | snoc h1 h2 ih =>
    intro v hv
    rcases List.mem_append.1 hv with g | g
    · exact ih v g
    · have : v = _ := List.mem_singleton.1 g
      subst this
      obtain ⟨j, a1, a2, _, a4, _⟩ := h2
      exact ⟨j, a1, a2, by omega⟩

theorem alone_core {M : MDat} {d k : Nat} {evs : List Ev} (ha : Alone M d k) (h : ReadOk M d evs) : ∀ v ∈ evs, v.core = k := fun v hv => by
  obtain ⟨j, a1, a2, a3⟩ := readok_core h v hv
  by_cases e : j = k
  · subst e; exact a1
  · rw [ha j a2 e] at a3; simp at a3

/-- Who was handed something or has stored something is k. -/
def OnlyK (k : Nat) (log : List Ent) : Prop := ∀ e ∈ log, (e.what = 3 ∨ e.what = 4) → e.core = k

theorem only_log {M : MDat} {d k : Nat} {S : So} (ha : Alone M d k) (hb : BookOk M d S) (hl : LogEv M d S) : OnlyK k S.log := fun e he hw => by
  obtain ⟨v, hv, h1, _⟩ := hl e he hw
  rw [← h1]
  exact alone_core ha hb.read v hv

theorem only_state {c : Cf} {k : Nat} {core x t : Int} {log : List Ent} (ho : OnlyK k log) (hne : core ≠ k) : stateF c core x t false log = 0 := by
  by_cases h : stateF c core x t false log = 0
  · exact h
  · obtain ⟨e, he, hw, hc, _⟩ := state_entry h
    exact absurd (hc.symm.trans (ho e he hw)) hne

theorem only_lone {c : Cf} {k : Nat} {x t : Int} {log : List Ent} (ho : OnlyK k log) : ∀ (n : Nat) (j : Int), loneF c k x t log n j = true
  | 0, _ => rfl
  | n + 1, j => by
    unfold loneF
    rw [if_neg (fun hh => hh.2 (only_state ho hh.1))]
    exact only_lone ho n (j + 1)

/-- No copy of a line of its own is Common. -/
def NoCommon (c : Cf) (k : Nat) (log : List Ent) : Prop := ∀ x t, x * c.line < c.priv → stateF c k x t false log ≠ 1

theorem nc_skip {c : Cf} {k : Nat} {e : Ent} {log : List Ent} (h : NoCommon c k log) (h3 : e.what ≠ 3) (h4 : e.what ≠ 4) : NoCommon c k (e :: log) := fun x t hx => by
  unfold stateF
  split
  · omega
  · split
    · omega
    · rw [if_neg (by simp [h3]), if_neg (by simp [h3]), if_neg (by simp [h3]), if_neg (by simp [h4]), if_neg (by simp [h3]), if_neg (by simp [h3, h4])]
      exact h x t hx

theorem nc_stored {c : Cf} {k : Nat} {e : Ent} {log : List Ent} (h : ∀ x t, x * c.line < c.priv → x ≠ e.line → stateF c k x t false log ≠ 1) (h4 : e.what = 4) (hk : e.core = k) : NoCommon c k (e :: log) := fun x t hx => by
  unfold stateF
  split
  · omega
  · rw [if_neg (by simp [h4]), if_neg (by simp [h4]), if_neg (by simp [h4]), if_neg (by simp [h4])]
    by_cases g : e.line = x
    · rw [if_pos (by simp [h4, hk, g])]; omega
    · rw [if_neg (by simp [g]), if_neg (by simp [g]), if_neg (by simp [g])]
      exact h x t hx (fun e => g e.symm)

theorem nc_handed {c : Cf} {k : Nat} {e : Ent} {log : List Ent} (h : NoCommon c k log) (h3 : e.what = 3) (hk : e.core = k) : ∀ x t, x * c.line < c.priv → (x = e.line → e.lo = true) → stateF c k x t false (e :: log) ≠ 1 := fun x t hx hlo => by
  unfold stateF
  split
  · omega
  · rw [if_neg (by simp [h3])]
    split
    · omega
    · rw [if_neg (by simp [hk]), if_neg (by simp [hk]), if_neg (by simp [h3])]
      by_cases g : e.line = x
      · rw [if_pos (by simp [h3, hk, g, hlo g.symm])]; omega
      · rw [if_neg (by simp [g]), if_neg (by simp [g])]
        exact h x t hx

theorem nc_service {M : MDat} {d k : Nat} {S : So} {B : Nat} {t : Int} (ha : Alone M d k) (hs : SoOk M d S B) (hc : chk M.c = 0) (ho : OnlyK k S.log) (h : NoCommon M.c k S.log) : NoCommon M.c k (So.service M d S t).log := by
  unfold So.service
  by_cases c1 : servesB M.c d t = true
  · rw [if_pos c1]
    cases hq : S.queue with
    | nil =>
      have : So.serve M d S t = S := by unfold So.serve; rw [hq]
      rw [this]; exact h
    | cons q r =>
      obtain ⟨j, rfl, hj, hj1⟩ := hs.qu q (by rw [hq]; exact List.mem_cons_self ..)
      have hjk : j = k := by
        by_cases e : j = k
        · exact e
        · have := hs.hw j hj
          rw [ha j hj e] at this
          have := hs.nx j hj
          simp at *
          omega
      subst hjk
      rcases hop : opAt M d j S with ⟨okd, oad, ovl⟩
      by_cases hw : 0 ≤ whereF (oad / M.c.line) S.log
      · by_cases hkd : okd = 1
        · subst hkd
          rw [serve_store hq hop rfl hw]
          refine nc_stored (fun x t' hx hne => ?_) rfl rfl
          exact nc_handed h rfl rfl x t' hx (fun e => absurd e hne)
        · rw [serve_load hq hop hkd rfl hw]
          intro x t' hx
          refine nc_handed h rfl rfl x t' hx (fun e => ?_)
          show (loneF M.c j (oad / M.c.line) t S.log M.c.cores.toNat 0 && decide (oad < M.c.priv)) = true
          rw [only_lone ho]
          have e' : x = oad / M.c.line := e
          obtain ⟨_, _, _, _, _, _, hl, p1, p2, sh0, sh1⟩ := shape_bounds (chk_zero hc).1
          have hw' := (chk_zero hc).1
          simp only [shapeB, wordsB, Bool.and_eq_true, beq_iff_eq] at hw'
          have hdv : M.c.priv % M.c.line = 0 := hw'.2.1.2
          have d1 := Int.mul_ediv_add_emod oad M.c.line
          have d2 := Int.emod_lt_of_pos oad (show 0 < M.c.line by omega)
          have d3 := Int.mul_ediv_add_emod M.c.priv M.c.line
          rw [hdv] at d3
          have d4 : oad / M.c.line < M.c.priv / M.c.line := by
            rw [e'] at hx
            have : oad / M.c.line * M.c.line < M.c.priv / M.c.line * M.c.line := by
              rw [Int.mul_comm (M.c.priv / M.c.line)]; omega
            exact Int.lt_of_mul_lt_mul_right this (by omega)
          have d5 : M.c.line * (oad / M.c.line + 1) ≤ M.c.line * (M.c.priv / M.c.line) := Int.mul_le_mul_of_nonneg_left (by omega) (by omega)
          rw [Int.mul_add, Int.mul_one] at d5
          simp
          omega
      · obtain ⟨way, hcw⟩ : ∃ way, chosenF M.c (M.c.ways.count (d : Int)) (oad / M.c.line % M.c.sets) S.log = way := ⟨_, rfl⟩
        obtain ⟨y, hy⟩ : ∃ y, liesF M.c (oad / M.c.line % M.c.sets) way S.log = y := ⟨_, rfl⟩
        by_cases h0 : 0 ≤ y
        · cases hm : markedF y S.log with
          | true => rw [serve_gone hq hop rfl hw hcw hy h0 hm]; exact nc_skip h (by simp) (by simp)
          | false => rw [serve_both hq hop rfl hw hcw hy h0 hm]; exact nc_skip (nc_skip h (by simp) (by simp)) (by simp) (by simp)
        · rw [serve_fill hq hop rfl hw hcw hy h0]; exact nc_skip h (by simp) (by simp)
  · rw [if_neg c1]; exact h
end Go.Proofs.YtehheaedbnfidaaGreat

namespace Go.Proofs.YtehheaedbnfidaaGreat

theorem alone_other {M : MDat} {d k j : Nat} {S : So} {B : Nat} {t : Int} (ha : Alone M d k) (hs : SoOk M d S B) (hj : j < M.c.cores.toNat) (hne : j ≠ k) : So.works M d j S t = S := by
  have h1 := hs.hw j hj
  have h2 := hs.nx j hj
  have e := ha j hj hne
  rw [e] at h1 h2
  simp only [List.length_nil] at h1 h2
  unfold So.works
  rw [if_neg (by omega), if_pos (Or.inr (Or.inr (Or.inl (by rw [e]; simp only [List.length_nil]; omega))))]

theorem alone_worksAll_above {M : MDat} {d k : Nat} {t : Int} (ha : Alone M d k) : ∀ (n j : Nat) (S : So) (B : Nat), SoOk M d S B → k < j → j + n ≤ M.c.cores.toNat → So.worksAll M d t n j S = S
  | 0, _, _, _, _, _, _ => rfl
  | n + 1, j, S, B, hs, hj, hn => by
    unfold So.worksAll
    rw [alone_other ha hs (by omega) (by omega)]
    exact alone_worksAll_above ha n (j + 1) S B hs (by omega) (by omega)

theorem alone_worksAll {M : MDat} {d k : Nat} {t : Int} (ha : Alone M d k) (hc : chk M.c = 0) (t0 : 0 ≤ t) (t1 : t ≤ 10000) : ∀ (n j : Nat) (S : So) (B : Nat), SoOk M d S B → j ≤ k → k < j + n → j + n ≤ M.c.cores.toNat → So.worksAll M d t n j S = So.works M d k S t
  | 0, j, _, _, _, h1, h2, _ => by omega
  | n + 1, j, S, B, hs, h1, h2, hn => by
    unfold So.worksAll
    by_cases e : j = k
    · subst e
      exact alone_worksAll_above ha n (j + 1) _ (B + 2) (hs.works hc (by omega) t0 t1) (by omega) (by omega)
    · rw [alone_other ha hs (by omega) e]
      exact alone_worksAll ha hc t0 t1 n (j + 1) S B hs (by omega) (by omega) (by omega)

theorem alone_cycle {M : MDat} {d k : Nat} {S : So} {B : Nat} {t : Int} (ha : Alone M d k) (hc : chk M.c = 0) (hs : SoOk M d S B) (hk : k < M.c.cores.toNat) (t0 : 0 ≤ t) (t1 : t ≤ 10000) : So.cycle M d S t = So.works M d k (So.service M d S t) t :=
  alone_worksAll ha hc t0 t1 _ 0 _ _ (hs.service hc t0 t1) (by omega) (by omega) (by omega)

theorem nc_works {M : MDat} {d k : Nat} {S : So} {t : Int} (h : NoCommon M.c k S.log) : NoCommon M.c k (So.works M d k S t).log := by
  unfold So.works
  by_cases c1 : S.how.getD k 0 = 2 ∧ t = S.began.getD k 0 + 2
  · rw [if_pos c1]; exact h
  · rw [if_neg c1]
    by_cases c2 : S.how.getD k 0 ≠ 0 ∨ t < S.free.getD k 0 ∨ ((progF M d k).length : Int) ≤ S.next.getD k 0 ∨ openB M.c k d t = false
    · rw [if_pos c2]; exact h
    · rw [if_neg c2]
      unfold So.begin
      by_cases d1 : faultF M.c (opAt M d k S) ≠ 0
      · simp only [if_pos d1]; exact h
      · simp only [if_neg d1]
        by_cases d2 : stateF M.c k ((opAt M d k S).2.1 / M.c.line) t false S.log = 0 ∨ ((opAt M d k S).1 = 1 ∧ stateF M.c k ((opAt M d k S).2.1 / M.c.line) t false S.log = 1)
        · simp only [if_pos d2]; exact h
        · simp only [if_neg d2]
          by_cases d3 : (opAt M d k S).1 = 1
          · simp only [if_pos d3]
            exact nc_stored (fun x t' hx _ => h x t' hx) rfl rfl
          · simp only [if_neg d3]; exact h

theorem nc_upto {M : MDat} {d k : Nat} (ha : Alone M d k) (hc : chk M.c = 0) (hk : k < M.c.cores.toNat) : ∀ (T : Nat), T ≤ 10000 → NoCommon M.c k (So.upto M d T).log
  | 0, _ => fun x t _ => by show stateF M.c k x t false [] ≠ 1; unfold stateF; omega
  | t + 1, h => by
    have hs := SoOk.upto (M := M) (d := d) hc t (by omega)
    have h1 := nc_service (t := (t : Int)) ha hs hc (only_log ha (book_upto hc t (by omega)).2 (logev_upto hc t (by omega))) (nc_upto ha hc hk t (by omega))
    show NoCommon M.c k (So.cycle M d (So.upto M d t) (t : Int)).log
    rw [alone_cycle ha hc hs hk (by omega) (by omega)]
    exact nc_works h1

/-- A flush begins behind s, up to t. -/
theorem flushed_iff {c : Cf} {s t : Int} (R : Right c) : flushedB c s t = true ↔ ∃ q : Int, s < q * c.quantum + c.quantum - c.flush ∧ q * c.quantum + c.quantum - c.flush ≤ t := by
  have q1 := R.q1
  have w0 := R.w0
  have f1 := R.f1
  have e := Int.mul_ediv_add_emod s c.quantum
  have r0 := Int.emod_nonneg s (show c.quantum ≠ 0 by omega)
  have r1 := Int.emod_lt_of_pos s (show 0 < c.quantum by omega)
  rw [Int.mul_comm] at e
  unfold flushedB flushAt
  constructor
  · intro h
    by_cases g1 : t < s / c.quantum * c.quantum + c.quantum - c.flush
    · rw [if_pos g1] at h; exact absurd h (by simp)
    · rw [if_neg g1] at h
      by_cases g2 : s < s / c.quantum * c.quantum + c.quantum - c.flush
      · exact ⟨s / c.quantum, g2, by omega⟩
      · rw [if_neg g2] at h
        have := of_decide_eq_true h
        refine ⟨s / c.quantum + 1, ?_, ?_⟩
        · rw [Int.add_mul, Int.one_mul]; omega
        · rw [Int.add_mul, Int.one_mul]; omega
  · rintro ⟨q, h1, h2⟩
    have hq : s / c.quantum ≤ q := by
      by_cases g : q < s / c.quantum
      · have : (q + 1) * c.quantum ≤ s / c.quantum * c.quantum := Int.mul_le_mul_of_nonneg_right (by omega) (by omega)
        rw [Int.add_mul, Int.one_mul] at this
        omega
      · omega
    have m : s / c.quantum * c.quantum ≤ q * c.quantum := Int.mul_le_mul_of_nonneg_right hq (by omega)
    rw [if_neg (by omega)]
    by_cases g2 : s < s / c.quantum * c.quantum + c.quantum - c.flush
    · rw [if_pos g2]
    · rw [if_neg g2]
      refine decide_eq_true ?_
      have : q ≠ s / c.quantum := fun e => by rw [e] at h1; exact g2 h1
      have : (s / c.quantum + 1) * c.quantum ≤ q * c.quantum := Int.mul_le_mul_of_nonneg_right (by omega) (by omega)
      rw [Int.add_mul, Int.one_mul] at this
      omega

theorem flushed_later {c : Cf} {s t t' : Int} (R : Right c) (h2 : t ≤ t') (h : flushedB c t t' = false) : flushedB c s t' = flushedB c s t := by
  cases g : flushedB c s t with
  | true =>
    obtain ⟨q, a, b⟩ := (flushed_iff R).1 g
    exact (flushed_iff R).2 ⟨q, a, by omega⟩
  | false =>
    cases g2 : flushedB c s t' with
    | false => rfl
    | true =>
      obtain ⟨q, a, b⟩ := (flushed_iff R).1 g2
      exfalso
      by_cases e : q * c.quantum + c.quantum - c.flush ≤ t
      · have := (flushed_iff R).2 ⟨q, a, e⟩
        rw [g] at this; exact absurd this (by simp)
      · have := (flushed_iff R).2 ⟨q, (by omega : t < _), b⟩
        rw [h] at this; exact absurd this (by simp)

theorem state_later {c : Cf} {core x t t' : Int} (R : Right c) (h2 : t ≤ t') (h : flushedB c t t' = false) : ∀ (lw : Bool) (log : List Ent), stateF c core x t' lw log = stateF c core x t lw log
  | _, [] => rfl
  | lw, e :: r => by
    have hr := fun lw => state_later (core := core) (x := x) R h2 h lw r
    unfold stateF
    rw [flushed_later R h2 h, hr, hr]

/-- Of an entry of this core and line on top, with no flush since, there is a copy. -/
theorem state_top {c : Cf} {k : Nat} {t : Int} {e : Ent} {log : List Ent} (hw : e.what = 3 ∨ e.what = 4) (hk : e.core = k) (hf : flushedB c e.t t = false) : stateF c k e.line t false (e :: log) ≠ 0 := by
  unfold stateF
  rw [if_neg (by rw [hf]; simp)]
  rcases hw with hw | hw
  · rw [if_neg (by simp [hw]), if_neg (by simp), if_neg (by simp [hk]), if_neg (by simp [hk]), if_neg (by simp [hw])]
    split
    · omega
    · rw [if_pos (by simp [hw, hk])]; omega
  · rw [if_neg (by simp [hw]), if_neg (by simp), if_neg (by simp [hk]), if_neg (by simp [hk]), if_pos (by simp [hw, hk])]
    omega

/-- What was done in the cycle before is near, as long as no flush comes. -/
def RightOk (M : MDat) (d k : Nat) (S : So) (t : Int) : Prop := ∀ v, S.evs.getLast? = some v → v.fault = 0 → v.done = t → ∀ t', t ≤ t' → flushedB M.c t t' = false → stateF M.c k (lineF M d v) t' false S.log ≠ 0

theorem right_done {M : MDat} {d k : Nat} {S S' : So} {t u : Int} (e1 : S'.evs = S.evs) (e2 : S'.next = S.next) (h : ∀ t', t ≤ t' → flushedB M.c t t' = false → stateF M.c k ((opAt M d k S).2.1 / M.c.line) t' false S'.log ≠ 0) : RightOk M d k (S'.done k t u 0) t := by
  intro v hv _ _ t' h1 h2
  have ev : (S'.done k t u 0).evs = S.evs ++ [⟨k, S.next.getD k 0, u, 0, S'.began.getD k 0, t⟩] := by
    show S'.evs ++ [⟨k, S'.next.getD k 0, u, 0, S'.began.getD k 0, t⟩] = _
    rw [e1, e2]
  rw [ev, List.getLast?_concat] at hv
  simp only [Option.some.injEq] at hv
  subst hv
  have op : opOf M d ⟨k, S.next.getD k 0, u, 0, S'.began.getD k 0, t⟩ = opAt M d k S := by
    unfold opOf opAt
    simp only [Int.toNat_natCast]
  unfold lineF
  rw [op]
  exact h t' h1 h2

theorem right_cycle {M : MDat} {d k T : Nat} (ha : Alone M d k) (hc : chk M.c = 0) (hd : (d : Int) < M.c.domains) (hk : k < M.c.cores.toNat) (hT : T + 1 ≤ 10000) : RightOk M d k (So.upto M d (T + 1)) T := by
  have R := right_of hc
  have hs := SoOk.upto (M := M) (d := d) hc T (by omega)
  obtain ⟨_, _, i3⟩ := clock_upto (M := M) (d := d) hc hd T (by omega)
  show RightOk M d k (So.cycle M d (So.upto M d T) (T : Int)) T
  rw [alone_cycle ha hc hs hk (by omega) (by omega)]
  have hs1 := hs.service hc (t := (T : Int)) (by omega) (by omega)
  have hfo := fault_service (t := (T : Int)) hs (book_upto (M := M) (d := d) hc T (by omega)).1
  generalize So.upto M d T = S at *
  -- what a service does
  have hserv : (So.service M d S T).evs = S.evs ∨ (RightOk M d k (So.service M d S T) T ∧ (So.service M d S T).how.getD k 0 = 0 ∧ (So.service M d S T).free.getD k 0 = (T : Int) + 1) := by
    unfold So.service
    by_cases c1 : servesB M.c d T = true
    · rw [if_pos c1]
      cases hq : S.queue with
      | nil =>
        left
        have : So.serve M d S T = S := by unfold So.serve; rw [hq]
        rw [this]
      | cons q r =>
        obtain ⟨j, rfl, hj, hj1⟩ := hs.qu q (by rw [hq]; exact List.mem_cons_self ..)
        have hjk : j = k := by
          by_cases e : j = k
          · exact e
          · have h1 := hs.hw j hj
            have h2 := hs.nx j hj
            rw [ha j hj e] at h1 h2
            simp only [List.length_nil] at h1 h2
            omega
        subst hjk
        have lh : j < S.how.length := by rw [hs.hl]; exact hk
        have lf : j < S.free.length := by rw [hs.fl]; exact hk
        have fin : ∀ (S' : So) (u : Int), S'.how = S.how → S'.free = S.free → (S'.done j T u 0).how.getD j 0 = 0 ∧ (S'.done j T u 0).free.getD j 0 = (T : Int) + 1 := fun S' u e1 e2 => by
          refine ⟨?_, ?_⟩
          · show (S'.how.set j 0).getD j 0 = 0
            rw [e1, getD_set lh, if_pos rfl]
          · show (S'.free.set j ((T : Int) + 1)).getD j 0 = _
            rw [e2, getD_set lf, if_pos rfl]
        rcases hop : opAt M d j S with ⟨okd, oad, ovl⟩
        by_cases hw : 0 ≤ whereF (oad / M.c.line) S.log
        · right
          by_cases hkd : okd = 1
          · subst hkd
            rw [serve_store hq hop rfl hw]
            refine ⟨right_done (S := S) rfl rfl (fun t' h1 h2 => ?_), fin _ _ rfl rfl⟩
            rw [hop]
            exact state_top (e := ⟨T, 4, j, oad / M.c.line, whereF (oad / M.c.line) S.log, false, false, oad, ovl⟩) (Or.inr rfl) rfl h2
          · rw [serve_load hq hop hkd rfl hw]
            refine ⟨right_done (S := S) rfl rfl (fun t' h1 h2 => ?_), fin _ _ rfl rfl⟩
            rw [hop]
            exact state_top (e := ⟨T, 3, j, oad / M.c.line, whereF (oad / M.c.line) S.log, false, _, 0, 0⟩) (Or.inl rfl) rfl h2
        · left
          obtain ⟨way, hcw⟩ : ∃ way, chosenF M.c (M.c.ways.count (d : Int)) (oad / M.c.line % M.c.sets) S.log = way := ⟨_, rfl⟩
          obtain ⟨y, hy⟩ : ∃ y, liesF M.c (oad / M.c.line % M.c.sets) way S.log = y := ⟨_, rfl⟩
          by_cases h0 : 0 ≤ y
          · cases hm : markedF y S.log with
            | true => rw [serve_gone hq hop rfl hw hcw hy h0 hm]; rfl
            | false => rw [serve_both hq hop rfl hw hcw hy h0 hm]; rfl
          · rw [serve_fill hq hop rfl hw hcw hy h0]; rfl
    · rw [if_neg c1]; left; rfl
  generalize So.service M d S T = S1 at *
  rcases hserv with he | ⟨hr, hh, hf⟩
  · -- the event, if there is one, is of this core's work
    have old : ∀ v, S1.evs.getLast? = some v → v.done < T := fun v hv => by rw [he] at hv; exact i3 v hv
    have none : RightOk M d k S1 T := fun v hv _ hdn => by have := old v hv; omega
    unfold So.works
    by_cases c1 : S1.how.getD k 0 = 2 ∧ (T : Int) = S1.began.getD k 0 + 2
    · rw [if_pos c1]
      by_cases hfa : faultF M.c (opAt M d k S1) = 0
      · exact absurd hfa (hfo k hk c1.1)
      · intro v hv hf0
        have ev : (S1.done k T 0 (faultF M.c (opAt M d k S1))).evs = S1.evs ++ [⟨k, S1.next.getD k 0, 0, faultF M.c (opAt M d k S1), S1.began.getD k 0, T⟩] := rfl
        rw [ev, List.getLast?_concat] at hv
        simp only [Option.some.injEq] at hv
        subst hv
        exact absurd hf0 hfa
    · rw [if_neg c1]
      by_cases c2 : S1.how.getD k 0 ≠ 0 ∨ (T : Int) < S1.free.getD k 0 ∨ ((progF M d k).length : Int) ≤ S1.next.getD k 0 ∨ openB M.c k d T = false
      · rw [if_pos c2]; exact none
      · rw [if_neg c2]
        unfold So.begin
        by_cases d1 : faultF M.c (opAt M d k S1) ≠ 0
        · simp only [if_pos d1]; exact none
        · simp only [if_neg d1]
          by_cases d2 : stateF M.c k ((opAt M d k S1).2.1 / M.c.line) T false S1.log = 0 ∨ ((opAt M d k S1).1 = 1 ∧ stateF M.c k ((opAt M d k S1).2.1 / M.c.line) T false S1.log = 1)
          · simp only [if_pos d2]; exact none
          · simp only [if_neg d2]
            by_cases d3 : (opAt M d k S1).1 = 1
            · simp only [if_pos d3]
              refine right_done (S := S1) rfl rfl (fun t' h1 h2 => ?_)
              exact state_top (e := ⟨T, 4, k, (opAt M d k S1).2.1 / M.c.line, 0, false, false, (opAt M d k S1).2.1, (opAt M d k S1).2.2⟩) (Or.inr rfl) rfl h2
            · simp only [if_neg d3]
              refine right_done (S := S1) rfl rfl (fun t' h1 h2 => ?_)
              show stateF M.c k _ t' false S1.log ≠ 0
              rw [state_later R h1 h2]
              exact fun e => d2 (Or.inl e)
  · have : So.works M d k S1 T = S1 := by
      unfold So.works
      rw [if_neg (by omega), if_pos (Or.inr (Or.inl (by omega)))]
    rw [this]
    exact hr
end Go.Proofs.YtehheaedbnfidaaGreat
