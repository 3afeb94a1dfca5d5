/-
  Solo, Solo2, Solo3, Solo4, Solo5
-/
import Derived.Test.YtcmcfafhllpojaaGreatClPackA
namespace Go.Proofs.YtcmcfafhllpojaaGreat

structure Ent where
  t : Int
  what : Int
  core : Int
  line : Int
  way : Int
  st : Bool
  lo : Bool
  addr : Int
  val : Int

structure Ev where
  core : Int
  index : Int
  value : Int
  fault : Int
  issue : Int
  done : Int

/-- An operation: its kind, address, value. -/
abbrev OpT := Int × Int × Int

/-- The first flush cycle of the turn of s. -/
def flushAt (c : Cf) (s : Int) : Int := s / c.quantum * c.quantum + c.quantum - c.flush
def flushedB (c : Cf) (s t : Int) : Bool :=
  if t < flushAt c s then false else if s < flushAt c s then true else decide (flushAt c s + c.quantum ≤ t)

def stateF (c : Cf) (core x t : Int) : Bool → List Ent → Int
  | _, [] => 0
  | lw, e :: r =>
    if flushedB c e.t t = true then 0
    else if (e.what == 2 && e.line == x) = true then 0
    else if (e.what == 3 && e.core == core && e.line != x && (e.line % c.near == x % c.near)) = true then 0
    else if (e.what == 3 && e.core != core && e.line == x && e.st) = true then 0
    else if (e.what == 3 && e.core != core && e.line == x) = true then stateF c core x t true r
    else if (e.what == 4 && e.core == core && e.line == x && !lw) = true then 3
    else if (e.what == 3 && e.core == core && e.line == x && e.lo && !lw) = true then 2
    else if ((e.what == 3 || e.what == 4) && e.core == core && e.line == x) = true then 1
    else stateF c core x t lw r

def whereF (x : Int) : List Ent → Int
  | [] => -1
  | e :: r => if (e.line == x && e.what == 1) = true then e.way else if (e.line == x && e.what == 2) = true then -1 else whereF x r

def liesF (c : Cf) (set way : Int) : List Ent → Int
  | [] => -1
  | e :: r => if ((e.line % c.sets == set) && e.way == way && e.what == 1) = true then e.line else if ((e.line % c.sets == set) && e.way == way && e.what == 2) = true then -1 else liesF c set way r

def markedF (x : Int) : List Ent → Bool
  | [] => false
  | e :: r => if (e.line == x && e.what == 4) = true then true else if (e.line == x && e.what == 1) = true then false else markedF x r

def wordF (a init : Int) : List Ent → Int
  | [] => init
  | e :: r => if (e.what == 4 && e.addr == a) = true then e.val else wordF a init r

def memoryF (x a init : Int) : List Ent → Int
  | [] => init
  | e :: r => if (e.what == 2 && e.line == x) = true then wordF a init r else memoryF x a init r

/-- The ways that were touched in the set, the first touch first. -/
def touchedF (c : Cf) (set : Int) (log : List Ent) : List Int := ((log.reverse.filter fun e => e.what == 3 && (e.line % c.sets == set)).map Ent.way)

/-- The first of the n ways from j on in which nothing lies; n: none. -/
def emptyF (c : Cf) (set : Int) (log : List Ent) : Nat → Int → Int
  | 0, j => j
  | n + 1, j => if liesF c set j log < 0 then j else emptyF c set log n (j + 1)

def chosenF (c : Cf) (n : Nat) (set : Int) (log : List Ent) : Int :=
  let j := emptyF c set log n 0
  if j < n then j else victimZ n (touchedF c set log)

theorem emptyF_hit {c : Cf} {set : Int} {log : List Ent} {j : Int} (h : liesF c set j log < 0) : ∀ n, 0 < n → emptyF c set log n j = j
  | n + 1, _ => by simp [emptyF, h]
theorem emptyF_miss {c : Cf} {set : Int} {log : List Ent} {j : Int} (h : ¬ liesF c set j log < 0) (n : Nat) : emptyF c set log (n + 1) j = emptyF c set log n (j + 1) := by simp [emptyF, h]

/-- What a machine was given. -/
structure MDat where
  c : Cf
  pr : Nat → List OpT
  ow : Nat → List Int
  cm : List Int

def firstF0 (M : MDat) (d : Nat) (a : Int) : Int := if a < M.c.priv then (M.ow d).getD a.toNat 0 else M.cm.getD (a - M.c.priv).toNat 0

def faultF (c : Cf) (o : OpT) : Int := if o.2.1 < 0 ∨ c.priv + c.shared ≤ o.2.1 then 1 else if o.1 = 1 ∧ c.priv ≤ o.2.1 then 2 else 0

/-- One domain's play. By core: the next operation, the cycle from which it may begin, since when it is under way, and how. -/
structure So where
  log : List Ent
  evs : List Ev
  next : List Int
  free : List Int
  began : List Int
  how : List Int
  queue : List Int

def So.told (S : So) (e : Ent) : So := { S with log := e :: S.log }
def So.done (S : So) (k : Nat) (t v f : Int) : So :=
  { S with evs := S.evs ++ [⟨k, S.next.getD k 0, v, f, S.began.getD k 0, t⟩], next := S.next.set k (S.next.getD k 0 + 1), free := S.free.set k (t + 1), how := S.how.set k 0 }

/-- No other core has a copy of x: of the n cores from j on. -/
def loneF (c : Cf) (core x t : Int) (log : List Ent) : Nat → Int → Bool
  | 0, _ => true
  | n + 1, j => if j ≠ core ∧ stateF c j x t false log ≠ 0 then false else loneF c core x t log n (j + 1)

def progF (M : MDat) (d k : Nat) : List OpT := M.pr (d * M.c.cores.toNat + k)
def opAt (M : MDat) (d k : Nat) (S : So) : OpT := (progF M d k).getD (S.next.getD k 0).toNat (0, 0, 0)

/-- A service in the cycle t. -/
def So.serve (M : MDat) (d : Nat) (S : So) (t : Int) : So :=
  match S.queue with
  | [] => S
  | core :: q =>
    let k := core.toNat
    let o := opAt M d k S
    let x := o.2.1 / M.c.line
    let way := whereF x S.log
    if 0 ≤ way then
      let S1 := { S with queue := q }
      if o.1 = 1 then ((S1.told ⟨t, 3, core, x, way, true, false, 0, 0⟩).told ⟨t, 4, core, x, way, false, false, o.2.1, o.2.2⟩).done k t o.2.2 0
      else
        let S2 := S1.told ⟨t, 3, core, x, way, false, loneF M.c core x t S.log M.c.cores.toNat 0 && decide (o.2.1 < M.c.priv), 0, 0⟩
        S2.done k t (wordF o.2.1 (firstF0 M d o.2.1) S2.log) 0
    else
      let set := x % M.c.sets
      let way := chosenF M.c (M.c.ways.count (d : Int)) set S.log
      let y := liesF M.c set way S.log
      if 0 ≤ y then
        let m := markedF y S.log
        let S1 := S.told ⟨t, 2, 0, y, way, false, false, 0, 0⟩
        if m = true then S1 else S1.told ⟨t, 1, 0, x, way, false, false, 0, 0⟩
      else S.told ⟨t, 1, 0, x, way, false, false, 0, 0⟩

def So.service (M : MDat) (d : Nat) (S : So) (t : Int) : So := if servesB M.c d t = true then So.serve M d S t else S

/-- An operation begins at the core k. -/
def So.begin (M : MDat) (d k : Nat) (S : So) (t : Int) : So :=
  let S1 := { S with began := S.began.set k t }
  let o := opAt M d k S
  if faultF M.c o ≠ 0 then { S1 with how := S1.how.set k 2 }
  else
    let x := o.2.1 / M.c.line
    let s := stateF M.c k x t false S.log
    if s = 0 ∨ (o.1 = 1 ∧ s = 1) then { S1 with how := S1.how.set k 1, queue := S1.queue ++ [(k : Int)] }
    else if o.1 = 1 then (S1.told ⟨t, 4, k, x, 0, false, false, o.2.1, o.2.2⟩).done k t o.2.2 0
    else S1.done k t (wordF o.2.1 (firstF0 M d o.2.1) S.log) 0

def So.works (M : MDat) (d k : Nat) (S : So) (t : Int) : So :=
  if S.how.getD k 0 = 2 ∧ t = S.began.getD k 0 + 2 then S.done k t 0 (faultF M.c (opAt M d k S))
  else if S.how.getD k 0 ≠ 0 ∨ t < S.free.getD k 0 ∨ ((progF M d k).length : Int) ≤ S.next.getD k 0 ∨ openB M.c k d t = false then S
  else So.begin M d k S t

/-- The cores j, j + 1, .., n of them. -/
def So.worksAll (M : MDat) (d : Nat) (t : Int) : Nat → Nat → So → So
  | 0, _, S => S
  | n + 1, j, S => So.worksAll M d t n (j + 1) (So.works M d j S t)

/-- What a cycle does. -/
def So.cycle (M : MDat) (d : Nat) (S : So) (t : Int) : So := So.worksAll M d t M.c.cores.toNat 0 (So.service M d S t)

def So.start (n : Nat) : So := ⟨[], [], List.replicate n 0, List.replicate n 0, List.replicate n 0, List.replicate n 0, []⟩

/-- The first T cycles. -/
def So.upto (M : MDat) (d : Nat) : Nat → So
  | 0 => So.start M.c.cores.toNat
  | t + 1 => So.cycle M d (So.upto M d t) t

end Go.Proofs.YtcmcfafhllpojaaGreat

namespace Go.Proofs.YtcmcfafhllpojaaGreat

/-- Sizes of what has happened. -/
structure EntOk (e : Ent) : Prop where
  l0 : 0 ≤ e.line
  l1 : e.line ≤ 100
  t0 : 0 ≤ e.t
  t1 : e.t ≤ 10000

structure SoOk (M : MDat) (d : Nat) (S : So) (B : Nat) : Prop where
  hl : S.how.length = M.c.cores.toNat
  nl : S.next.length = M.c.cores.toNat
  fl : S.free.length = M.c.cores.toNat
  bl : S.began.length = M.c.cores.toNat
  log : ∀ e ∈ S.log, EntOk e
  nx : ∀ k, k < M.c.cores.toNat → 0 ≤ S.next.getD k 0 ∧ S.next.getD k 0 ≤ (progF M d k).length
  hw : ∀ k, k < M.c.cores.toNat → S.how.getD k 0 = 0 ∨ ((S.how.getD k 0 = 1 ∨ S.how.getD k 0 = 2) ∧ S.next.getD k 0 < (progF M d k).length)
  w1 : ∀ k, k < M.c.cores.toNat → S.how.getD k 0 = 1 → faultF M.c (opAt M d k S) = 0
  qu : ∀ q ∈ S.queue, ∃ k : Nat, q = k ∧ k < M.c.cores.toNat ∧ S.how.getD k 0 = 1
  nd : S.queue.Nodup
  fr : ∀ k, k < M.c.cores.toNat → 0 ≤ S.free.getD k 0 ∧ S.free.getD k 0 ≤ 10001
  bg : ∀ k, k < M.c.cores.toNat → 0 ≤ S.began.getD k 0 ∧ S.began.getD k 0 ≤ 10000
  lb : S.log.length ≤ B
  eb : S.evs.length ≤ B

theorem getD_set {xs : List Int} {k j : Nat} {v : Int} (hk : k < xs.length) : (xs.set k v).getD j 0 = if j = k then v else xs.getD j 0 := by
  rw [List.getD_eq_getElem?_getD, List.getElem?_set]
  by_cases e : k = j
  · subst e; simp [hk]
  · rw [if_neg e, if_neg (fun h => e h.symm), List.getD_eq_getElem?_getD]

theorem SoOk.mono {M : MDat} {d : Nat} {S : So} {B B' : Nat} (h : SoOk M d S B) (hb : B ≤ B') : SoOk M d S B' :=
  { h with lb := Nat.le_trans h.lb hb, eb := Nat.le_trans h.eb hb }

theorem SoOk.told {M : MDat} {d : Nat} {S : So} {B : Nat} (h : SoOk M d S B) (e : Ent) (he : EntOk e) : SoOk M d (S.told e) (B + 1) :=
  ⟨h.hl, h.nl, h.fl, h.bl, fun x hx => by
    rcases List.mem_cons.1 hx with hx | hx
    · subst hx; exact he
    · exact h.log x hx, h.nx, h.hw, h.w1, h.qu, h.nd, h.fr, h.bg, by simp only [So.told, List.length_cons]; have := h.lb; omega, by have := h.eb; simp only [So.told]; omega⟩

/-- Of a play from whose waiting cores k is gone: what is under way at k is done. -/
theorem SoOk.done {M : MDat} {d : Nat} {S : So} {B k : Nat} {t v f : Int} (h : SoOk M d S B) (hk : k < M.c.cores.toNat) (hn : S.next.getD k 0 < (progF M d k).length) (hq : (k : Int) ∉ S.queue) (t0 : 0 ≤ t) (t1 : t ≤ 10000) : SoOk M d (S.done k t v f) (B + 1) := by
  have kn : k < S.next.length := by rw [h.nl]; exact hk
  have kf : k < S.free.length := by rw [h.fl]; exact hk
  have kh : k < S.how.length := by rw [h.hl]; exact hk
  have op : ∀ j, j ≠ k → opAt M d j (S.done k t v f) = opAt M d j S := fun j hj => by
    unfold opAt So.done
    simp only
    rw [getD_set kn, if_neg hj]
  refine ⟨by simp [So.done, h.hl], by simp [So.done, h.nl], by simp [So.done, h.fl], by simp [So.done, h.bl], h.log, ?_, ?_, ?_, ?_, h.nd, ?_, h.bg, by have := h.lb; simp only [So.done]; omega, by simp only [So.done, List.length_append, List.length_cons, List.length_nil]; have := h.eb; omega⟩
  · intro j hj
    simp only [So.done]
    rw [getD_set kn]
    by_cases e : j = k
    · subst e; rw [if_pos rfl]; have := h.nx j hj; omega
    · rw [if_neg e]; exact h.nx j hj
  · intro j hj
    simp only [So.done]
    rw [getD_set kh, getD_set kn]
    by_cases e : j = k
    · subst e; left; rw [if_pos rfl]
    · rw [if_neg e, if_neg e]; exact h.hw j hj
  · intro j hj hw
    by_cases e : j = k
    · subst e
      simp only [So.done] at hw
      rw [getD_set kh, if_pos rfl] at hw
      omega
    · rw [op j e]
      simp only [So.done] at hw
      rw [getD_set kh, if_neg e] at hw
      exact h.w1 j hj hw
  · intro q hq2
    obtain ⟨j, e1, e2, e3⟩ := h.qu q hq2
    refine ⟨j, e1, e2, ?_⟩
    simp only [So.done]
    rw [getD_set kh, if_neg (fun e => by subst e; subst e1; exact hq hq2)]
    exact e3
  · intro j hj
    simp only [So.done]
    rw [getD_set kf]
    by_cases e : j = k
    · subst e; rw [if_pos rfl]; omega
    · rw [if_neg e]; exact h.fr j hj

/-- The line of an operation that is no fault. -/
theorem fault_none {c : Cf} {o : OpT} (h : faultF c o = 0) : 0 ≤ o.2.1 ∧ o.2.1 < c.priv + c.shared := by
  unfold faultF at h
  by_cases h1 : o.2.1 < 0 ∨ c.priv + c.shared ≤ o.2.1
  · rw [if_pos h1] at h; omega
  · omega

theorem line_ok {c : Cf} (hc : chk c = 0) {a : Int} (a0 : 0 ≤ a) (a1 : a < c.priv + c.shared) : 0 ≤ a / c.line ∧ a / c.line ≤ 100 := by
  obtain ⟨_, _, _, _, _, _, hl, p1, p2, sh0, sh1⟩ := shape_bounds (chk_zero hc).1
  refine ⟨Int.ediv_nonneg a0 (by omega), ?_⟩
  have := Int.ediv_le_self c.line a0
  omega

theorem lies_ok {c : Cf} {set way : Int} : ∀ {log : List Ent}, (∀ e ∈ log, EntOk e) → 0 ≤ liesF c set way log → liesF c set way log ≤ 100
  | [], _, h => by simp [liesF] at h
  | e :: r, hl, h => by
    unfold liesF at h ⊢
    by_cases h1 : ((e.line % c.sets == set) && e.way == way && e.what == 1) = true
    · rw [if_pos h1]; exact (hl e (List.mem_cons_self ..)).l1
    · rw [if_neg h1] at h ⊢
      by_cases h2 : ((e.line % c.sets == set) && e.way == way && e.what == 2) = true
      · rw [if_pos h2]; omega
      · rw [if_neg h2] at h ⊢
        exact lies_ok (fun x hx => hl x (List.mem_cons_of_mem _ hx)) h

theorem SoOk.pop {M : MDat} {d : Nat} {S : So} {B : Nat} {q : Int} {r : List Int} (h : SoOk M d S B) (hq : S.queue = q :: r) : SoOk M d { S with queue := r } B ∧ q ∉ r := by
  have hnd := h.nd
  rw [hq] at hnd
  refine ⟨⟨h.hl, h.nl, h.fl, h.bl, h.log, h.nx, h.hw, h.w1, fun x hx => h.qu x (by rw [hq]; exact List.mem_cons_of_mem _ hx), (List.nodup_cons.1 hnd).2, h.fr, h.bg, h.lb, h.eb⟩, (List.nodup_cons.1 hnd).1⟩

theorem SoOk.serve {M : MDat} {d : Nat} {S : So} {B : Nat} {t : Int} (h : SoOk M d S B) (hc : chk M.c = 0) (t0 : 0 ≤ t) (t1 : t ≤ 10000) : SoOk M d (So.serve M d S t) (B + 3) := by
  unfold So.serve
  cases hq : S.queue with
  | nil => exact h.mono (by omega)
  | cons core r =>
    obtain ⟨k, rfl, hk, hk1⟩ := h.qu core (by rw [hq]; exact List.mem_cons_self ..)
    simp only [Int.toNat_natCast]
    have hf := h.w1 k hk hk1
    obtain ⟨a0, a1⟩ := fault_none hf
    obtain ⟨x0, x1⟩ := line_ok hc a0 a1
    have hn : S.next.getD k 0 < (progF M d k).length := by rcases h.hw k hk with e | e <;> omega
    obtain ⟨hp, hq2⟩ := h.pop hq
    by_cases c1 : 0 ≤ whereF ((opAt M d k S).2.1 / M.c.line) S.log
    · rw [if_pos c1]
      by_cases c2 : (opAt M d k S).1 = 1
      · rw [if_pos c2]
        exact ((hp.told _ ⟨x0, x1, t0, t1⟩).told _ ⟨x0, x1, t0, t1⟩).done hk hn hq2 t0 t1
      · rw [if_neg c2]
        exact ((hp.told _ ⟨x0, x1, t0, t1⟩).done hk hn hq2 t0 t1).mono (by omega)
    · rw [if_neg c1]
      by_cases c2 : 0 ≤ liesF M.c ((opAt M d k S).2.1 / M.c.line % M.c.sets) (chosenF M.c (M.c.ways.count (d : Int)) ((opAt M d k S).2.1 / M.c.line % M.c.sets) S.log) S.log
      · rw [if_pos c2]
        have y1 := lies_ok h.log c2
        by_cases c3 : markedF (liesF M.c ((opAt M d k S).2.1 / M.c.line % M.c.sets) (chosenF M.c (M.c.ways.count (d : Int)) ((opAt M d k S).2.1 / M.c.line % M.c.sets) S.log) S.log) S.log = true
        · rw [if_pos c3]
          exact (h.told _ ⟨c2, y1, t0, t1⟩).mono (by omega)
        · rw [if_neg c3]
          exact ((h.told _ ⟨c2, y1, t0, t1⟩).told _ ⟨x0, x1, t0, t1⟩).mono (by omega)
      · rw [if_neg c2]
        exact (h.told _ ⟨x0, x1, t0, t1⟩).mono (by omega)

theorem SoOk.service {M : MDat} {d : Nat} {S : So} {B : Nat} {t : Int} (h : SoOk M d S B) (hc : chk M.c = 0) (t0 : 0 ≤ t) (t1 : t ≤ 10000) : SoOk M d (So.service M d S t) (B + 3) := by
  unfold So.service
  by_cases c1 : servesB M.c d t = true
  · rw [if_pos c1]; exact h.serve hc t0 t1
  · rw [if_neg c1]; exact h.mono (by omega)

/-- Since t something is under way at k, which was idle. -/
theorem SoOk.began {M : MDat} {d : Nat} {S : So} {B k : Nat} {t : Int} (h : SoOk M d S B) (hk : k < M.c.cores.toNat) (t0 : 0 ≤ t) (t1 : t ≤ 10000) : SoOk M d { S with began := S.began.set k t } B := by
  have kb : k < S.began.length := by rw [h.bl]; exact hk
  refine ⟨h.hl, h.nl, h.fl, by simp [h.bl], h.log, h.nx, h.hw, h.w1, h.qu, h.nd, h.fr, fun j hj => ?_, h.lb, h.eb⟩
  simp only
  rw [getD_set kb]
  by_cases e : j = k
  · rw [if_pos e]; omega
  · rw [if_neg e]; exact h.bg j hj

theorem SoOk.begin {M : MDat} {d : Nat} {S : So} {B k : Nat} {t : Int} (h : SoOk M d S B) (hc : chk M.c = 0) (hk : k < M.c.cores.toNat) (hn : S.next.getD k 0 < (progF M d k).length) (h0 : S.how.getD k 0 = 0) (t0 : 0 ≤ t) (t1 : t ≤ 10000) : SoOk M d (So.begin M d k S t) (B + 2) := by
  have kh : k < S.how.length := by rw [h.hl]; exact hk
  have hb := h.began hk t0 t1
  have nq : (k : Int) ∉ S.queue := fun hq => by
    obtain ⟨j, e1, e2, e3⟩ := h.qu _ hq
    have : k = j := by omega
    subst this
    omega
  unfold So.begin
  by_cases c1 : faultF M.c (opAt M d k S) ≠ 0
  · simp only [if_pos c1]
    refine ⟨by simp [h.hl], h.nl, h.fl, hb.bl, h.log, h.nx, fun j hj => ?_, fun j hj hw => ?_, fun q hq => ?_, h.nd, h.fr, hb.bg, by have := h.lb; simp only; omega, by have := h.eb; simp only; omega⟩
    · simp only
      rw [getD_set kh]
      by_cases e : j = k
      · subst e; right; rw [if_pos rfl]; exact ⟨Or.inr rfl, hn⟩
      · rw [if_neg e]; exact h.hw j hj
    · simp only at hw
      rw [getD_set kh] at hw
      by_cases e : j = k
      · rw [if_pos e] at hw; omega
      · rw [if_neg e] at hw; exact h.w1 j hj hw
    · obtain ⟨j, e1, e2, e3⟩ := h.qu q hq
      refine ⟨j, e1, e2, ?_⟩
      simp only
      rw [getD_set kh, if_neg (fun e => by subst e; omega)]
      exact e3
  · simp only [if_neg c1]
    have hf : faultF M.c (opAt M d k S) = 0 := by omega
    obtain ⟨a0, a1⟩ := fault_none hf
    obtain ⟨x0, x1⟩ := line_ok hc a0 a1
    by_cases c2 : stateF M.c k ((opAt M d k S).2.1 / M.c.line) t false S.log = 0 ∨ ((opAt M d k S).1 = 1 ∧ stateF M.c k ((opAt M d k S).2.1 / M.c.line) t false S.log = 1)
    · simp only [if_pos c2]
      refine ⟨by simp [h.hl], h.nl, h.fl, hb.bl, h.log, h.nx, fun j hj => ?_, fun j hj hw => ?_, fun q hq => ?_, ?_, h.fr, hb.bg, by have := h.lb; simp only; omega, by have := h.eb; simp only; omega⟩
      · simp only
        rw [getD_set kh]
        by_cases e : j = k
        · subst e; right; rw [if_pos rfl]; exact ⟨Or.inl rfl, hn⟩
        · rw [if_neg e]; exact h.hw j hj
      · simp only at hw
        rw [getD_set kh] at hw
        by_cases e : j = k
        · subst e; exact hf
        · rw [if_neg e] at hw; exact h.w1 j hj hw
      · simp only at hq ⊢
        rcases List.mem_append.1 hq with hq | hq
        · obtain ⟨j, e1, e2, e3⟩ := h.qu q hq
          refine ⟨j, e1, e2, ?_⟩
          rw [getD_set kh, if_neg (fun e => by subst e; omega)]
          exact e3
        · have : q = (k : Int) := by simpa using hq
          exact ⟨k, this, hk, by rw [getD_set kh, if_pos rfl]⟩
      · simp only
        rw [List.nodup_append]
        refine ⟨h.nd, by simp, fun x hx y hy e => ?_⟩
        have : y = (k : Int) := by simpa using hy
        subst this
        subst e
        exact nq hx
    · simp only [if_neg c2]
      by_cases c3 : (opAt M d k S).1 = 1
      · simp only [if_pos c3]
        exact (hb.told _ ⟨x0, x1, t0, t1⟩).done hk hn nq t0 t1
      · simp only [if_neg c3]
        exact (hb.done hk hn nq t0 t1).mono (by omega)

theorem SoOk.works {M : MDat} {d : Nat} {S : So} {B k : Nat} {t : Int} (h : SoOk M d S B) (hc : chk M.c = 0) (hk : k < M.c.cores.toNat) (t0 : 0 ≤ t) (t1 : t ≤ 10000) : SoOk M d (So.works M d k S t) (B + 2) := by
  unfold So.works
  by_cases c1 : S.how.getD k 0 = 2 ∧ t = S.began.getD k 0 + 2
  · rw [if_pos c1]
    have hn : S.next.getD k 0 < (progF M d k).length := by rcases h.hw k hk with e | e <;> omega
    refine (h.done hk hn (fun hq => ?_) t0 t1).mono (by omega)
    obtain ⟨j, e1, e2, e3⟩ := h.qu _ hq
    have : k = j := by omega
    subst this
    omega
  · rw [if_neg c1]
    by_cases c2 : S.how.getD k 0 ≠ 0 ∨ t < S.free.getD k 0 ∨ ((progF M d k).length : Int) ≤ S.next.getD k 0 ∨ openB M.c k d t = false
    · rw [if_pos c2]; exact h.mono (by omega)
    · rw [if_neg c2]
      exact h.begin hc hk (by omega) (by omega) t0 t1

theorem SoOk.worksAll {M : MDat} {d : Nat} {t : Int} (hc : chk M.c = 0) (t0 : 0 ≤ t) (t1 : t ≤ 10000) : ∀ (n j : Nat) {S : So} {B : Nat}, SoOk M d S B → j + n ≤ M.c.cores.toNat → SoOk M d (So.worksAll M d t n j S) (B + 2 * n)
  | 0, _, _, _, h, _ => h
  | n + 1, j, S, B, h, hj => by
    have := SoOk.worksAll hc t0 t1 n (j + 1) (h.works hc (by omega : j < _) t0 t1) (by omega)
    exact this.mono (by omega)

theorem SoOk.cycle {M : MDat} {d : Nat} {S : So} {B : Nat} {t : Int} (h : SoOk M d S B) (hc : chk M.c = 0) (t0 : 0 ≤ t) (t1 : t ≤ 10000) : SoOk M d (So.cycle M d S t) (B + 9) := by
  have c2 := (right_of hc).c2
  have := SoOk.worksAll (d := d) hc t0 t1 M.c.cores.toNat 0 (h.service hc t0 t1) (by omega)
  exact this.mono (by omega)

theorem SoOk.start {M : MDat} {d : Nat} : SoOk M d (So.start M.c.cores.toNat) 0 := by
  have z : ∀ k, (List.replicate M.c.cores.toNat (0 : Int)).getD k 0 = 0 := fun k => by
    rw [List.getD_eq_getElem?_getD, List.getElem?_replicate]; split <;> rfl
  refine ⟨by simp [So.start], by simp [So.start], by simp [So.start], by simp [So.start], by simp [So.start], fun k _ => ?_, fun k _ => Or.inl (z k), fun k _ hw => ?_, by simp [So.start], by simp [So.start], fun k _ => ?_, fun k _ => ?_, by simp [So.start], by simp [So.start]⟩
  · show 0 ≤ (List.replicate M.c.cores.toNat (0 : Int)).getD k 0 ∧ _
    simp only [So.start]
    rw [z]; omega
  · have : (List.replicate M.c.cores.toNat (0 : Int)).getD k 0 = 1 := hw
    rw [z] at this; omega
  · simp only [So.start]; rw [z]; omega
  · simp only [So.start]; rw [z]; omega

theorem SoOk.upto {M : MDat} {d : Nat} (hc : chk M.c = 0) : ∀ (T : Nat), T ≤ 10000 → SoOk M d (So.upto M d T) (9 * T)
  | 0, _ => SoOk.start
  | t + 1, h => (SoOk.cycle (SoOk.upto hc t (by omega)) hc (by omega) (by omega)).mono (by omega)

end Go.Proofs.YtcmcfafhllpojaaGreat

namespace Go.Proofs.YtcmcfafhllpojaaGreat

def neverZ : Int := 1099511627776

def opensF (c : Cf) (k : Nat) (d : Int) : Nat → Int → Int
  | 0, _ => neverZ
  | n + 1, u => if openB c k d u = true then u else opensF c k d n ((u / c.quantum + 1) * c.quantum)

def opensZ (c : Cf) (k : Nat) (d t : Int) : Int := opensF c k d ((rowOf c k).length + 1) t

def coreF (M : MDat) (d k : Nat) (S : So) (t : Int) : Int :=
  if S.how.getD k 0 = 2 then S.began.getD k 0 + 2
  else if S.how.getD k 0 = 0 ∧ S.next.getD k 0 < (progF M d k).length then (if t < S.free.getD k 0 then opensZ M.c k d (S.free.getD k 0) else opensZ M.c k d t)
  else neverZ

/-- The least of u and of what the cores j, .., n of them, tell. -/
def soonF (M : MDat) (d : Nat) (S : So) (t : Int) : Nat → Nat → Int → Int
  | 0, _, u => u
  | n + 1, j, u => soonF M d S t n (j + 1) (if coreF M d j S t < u then coreF M d j S t else u)

def soonZ (M : MDat) (d : Nat) (S : So) (t : Int) : Int := soonF M d S t M.c.cores.toNat 0 (if S.queue = [] then neverZ else waitZ M.c d t)

theorem soonF_le (M : MDat) (d : Nat) (S : So) (t : Int) : ∀ (n j : Nat) (u : Int), soonF M d S t n j u ≤ u ∧ ∀ i, j ≤ i → i < j + n → soonF M d S t n j u ≤ coreF M d i S t
  | 0, j, u => ⟨Int.le_refl _, fun i h1 h2 => by omega⟩
  | n + 1, j, u => by
    obtain ⟨h1, h2⟩ := soonF_le M d S t n (j + 1) (if coreF M d j S t < u then coreF M d j S t else u)
    unfold soonF
    have hu : (if coreF M d j S t < u then coreF M d j S t else u) ≤ u ∧ (if coreF M d j S t < u then coreF M d j S t else u) ≤ coreF M d j S t := by
      by_cases h : coreF M d j S t < u
      · rw [if_pos h]; omega
      · rw [if_neg h]; omega
    refine ⟨Int.le_trans h1 hu.1, fun i hi1 hi2 => ?_⟩
    by_cases e : i = j
    · subst e; exact Int.le_trans h1 hu.2
    · exact h2 i (by omega) (by omega)

/-- Within a turn: what is not open does not open again. -/
theorem open_later {c : Cf} {k : Nat} {d u v : Int} (hq : 0 < c.quantum) (h : openB c k d u = false) (h1 : u ≤ v) (h2 : v < (u / c.quantum + 1) * c.quantum) : openB c k d v = false := by
  have e1 := Int.mul_ediv_add_emod u c.quantum
  have e2 := Int.mul_ediv_add_emod v c.quantum
  have r0 := Int.emod_nonneg v (show c.quantum ≠ 0 by omega)
  have r1 := Int.emod_lt_of_pos v hq
  have s0 := Int.emod_nonneg u (show c.quantum ≠ 0 by omega)
  have l1 : u / c.quantum ≤ v / c.quantum := Int.ediv_le_ediv hq h1
  have l2 : v / c.quantum < u / c.quantum + 1 := Int.ediv_lt_of_lt_mul hq h2
  have l3 : v / c.quantum = u / c.quantum := by omega
  rw [l3] at e2
  have l4 : u % c.quantum ≤ v % c.quantum := by omega
  unfold openB turnZ at h ⊢
  rw [l3]
  by_cases g : v % c.quantum < c.quantum - c.flush - worstZ c
  · have g' : u % c.quantum < c.quantum - c.flush - worstZ c := by omega
    rw [decide_eq_true g'] at h
    rw [decide_eq_true g]
    exact h
  · rw [decide_eq_false g]
    simp

/-- The turn q is d's at k. -/
def turnIs (c : Cf) (k : Nat) (d q : Int) : Bool := ((rowOf c k).getD (q % ((rowOf c k).length : Int)).toNat 0 == d)

theorem open_turn {c : Cf} {k : Nat} {d v : Int} (h : openB c k d v = true) : turnIs c k d (v / c.quantum) = true ∧ 0 ≤ d := by
  unfold openB turnZ at h
  simp only [Bool.and_eq_true, decide_eq_true_eq] at h
  exact ⟨h.1.1, h.1.2⟩

theorem open_start {c : Cf} {k : Nat} {d q : Int} (R : Right c) (h : turnIs c k d q = true) (hd : 0 ≤ d) : openB c k d (q * c.quantum) = true := by
  have q1 := R.q1
  have w0 := R.w0
  have f1 := R.f1
  unfold openB turnZ
  rw [Int.mul_ediv_cancel _ (by omega), Int.mul_emod_left]
  unfold turnIs at h
  rw [h, decide_eq_true hd, decide_eq_true (by omega)]
  rfl

/-- Nothing is open ahead of what opensF tells, where it tells a cycle of the next n turns. -/
theorem opensF_spec {c : Cf} {k : Nat} {d : Int} (hq : 0 < c.quantum) : ∀ (n : Nat) (u v : Int), u ≤ v → v < opensF c k d n u → v < (u / c.quantum + n) * c.quantum → openB c k d v = false
  | 0, u, v, h1, _, h3 => by
    have e1 := Int.mul_ediv_add_emod u c.quantum
    have s0 := Int.emod_nonneg u (show c.quantum ≠ 0 by omega)
    rw [Int.mul_comm] at e1
    simp only [Int.natCast_zero, Int.add_zero] at h3
    omega
  | n + 1, u, v, h1, h2, h3 => by
    unfold opensF at h2
    by_cases ho : openB c k d u = true
    · rw [if_pos ho] at h2; omega
    · rw [if_neg ho] at h2
      have ho' : openB c k d u = false := by simpa using ho
      by_cases g : v < (u / c.quantum + 1) * c.quantum
      · exact open_later hq ho' h1 g
      · refine opensF_spec hq n ((u / c.quantum + 1) * c.quantum) v (by omega) h2 ?_
        rw [Int.mul_ediv_cancel _ (by omega)]
        have e : u / c.quantum + ((n + 1 : Nat) : Int) = u / c.quantum + 1 + (n : Int) := by omega
        rw [e] at h3
        exact h3

/-- opensF tells no later cycle than the first that is open at a turn's beginning. -/
theorem opensF_le {c : Cf} {k : Nat} {d : Int} (hq : 0 < c.quantum) : ∀ (n : Nat) (u : Int) (i : Nat), 1 ≤ i → i < n → openB c k d ((u / c.quantum + i) * c.quantum) = true → opensF c k d n u ≤ (u / c.quantum + i) * c.quantum
  | 0, _, i, _, h, _ => by omega
  | n + 1, u, i, h1, h2, ho => by
    unfold opensF
    have e1 := Int.mul_ediv_add_emod u c.quantum
    have s1 := Int.emod_lt_of_pos u hq
    rw [Int.mul_comm] at e1
    by_cases hu : openB c k d u = true
    · rw [if_pos hu]
      have : (u / c.quantum + 1) * c.quantum ≤ (u / c.quantum + i) * c.quantum := Int.mul_le_mul_of_nonneg_right (by omega) (by omega)
      rw [Int.add_mul, Int.one_mul] at this
      omega
    · rw [if_neg hu]
      by_cases e : i = 1
      · subst e
        cases n with
        | zero => omega
        | succ m =>
          unfold opensF
          have ho' : openB c k d ((u / c.quantum + 1) * c.quantum) = true := ho
          rw [if_pos ho']
          exact Int.le_refl _
      · have := opensF_le (k := k) (d := d) hq n ((u / c.quantum + 1) * c.quantum) (i - 1) (by omega) (by omega)
        rw [Int.mul_ediv_cancel _ (by omega)] at this
        have e2 : u / c.quantum + 1 + ((i - 1 : Nat) : Int) = u / c.quantum + (i : Int) := by omega
        rw [e2] at this
        exact this ho

theorem turn_period {c : Cf} {k : Nat} {d q : Int} (h : turnIs c k d q = true) (hl : 0 < (rowOf c k).length) (p : Int) : ∃ i : Nat, 1 ≤ i ∧ i ≤ (rowOf c k).length ∧ turnIs c k d (p + i) = true := by
  have h1 := Int.emod_nonneg (q - p - 1) (show ((rowOf c k).length : Int) ≠ 0 by omega)
  have h2 := Int.emod_lt_of_pos (q - p - 1) (show (0 : Int) < ((rowOf c k).length : Int) by omega)
  obtain ⟨i, hi⟩ := Int.eq_ofNat_of_zero_le h1
  refine ⟨i + 1, by omega, by omega, ?_⟩
  unfold turnIs at h ⊢
  have e : (p + ((i + 1 : Nat) : Int)) % ((rowOf c k).length : Int) = q % ((rowOf c k).length : Int) := by
    rw [show p + ((i + 1 : Nat) : Int) = (i : Int) + (p + 1) by omega, ← hi, Int.emod_add_emod, show q - p - 1 + (p + 1) = q by omega]
  rw [e]
  exact h

theorem opens_spec {c : Cf} {k : Nat} {d t v : Int} (R : Right c) (hl : 0 < (rowOf c k).length) (h1 : t ≤ v) (h2 : v < opensZ c k d t) : openB c k d v = false := by
  have q1 := R.q1
  have w0 := R.w0
  have f1 := R.f1
  have hq : 0 < c.quantum := by omega
  cases ho : openB c k d v with
  | false => rfl
  | true =>
    exfalso
    by_cases g : v < (t / c.quantum + ((rowOf c k).length + 1 : Nat)) * c.quantum
    · have := opensF_spec hq _ t v h1 h2 g
      rw [ho] at this
      exact absurd this (by simp)
    · obtain ⟨ht, hd⟩ := open_turn ho
      obtain ⟨i, i1, i2, hi⟩ := turn_period ht hl (t / c.quantum)
      have := opensF_le hq ((rowOf c k).length + 1) t i i1 (by omega) (open_start R hi hd)
      have h3 : (t / c.quantum + (i : Int)) * c.quantum ≤ (t / c.quantum + ((rowOf c k).length + 1 : Nat)) * c.quantum := Int.mul_le_mul_of_nonneg_right (by omega) (by omega)
      unfold opensZ at h2
      omega

theorem opensF_ge {c : Cf} {k : Nat} {d : Int} (hq : 0 < c.quantum) : ∀ (n : Nat) (u : Int), u ≤ opensF c k d n u ∨ opensF c k d n u = neverZ
  | 0, u => Or.inr rfl
  | n + 1, u => by
    unfold opensF
    by_cases hu : openB c k d u = true
    · rw [if_pos hu]; left; omega
    · rw [if_neg hu]
      have e1 := Int.mul_ediv_add_emod u c.quantum
      have s1 := Int.emod_lt_of_pos u hq
      rw [Int.mul_comm] at e1
      rcases opensF_ge (k := k) (d := d) hq n ((u / c.quantum + 1) * c.quantum) with h2 | h2
      · left
        have e2 : (u / c.quantum + 1) * c.quantum = u / c.quantum * c.quantum + c.quantum := by rw [Int.add_mul, Int.one_mul]
        omega
      · exact Or.inr h2

/-- What fails is done in time. -/
def FailOk (M : MDat) (S : So) (t : Int) : Prop := ∀ k, k < M.c.cores.toNat → S.how.getD k 0 = 2 → t ≤ S.began.getD k 0 + 2

theorem row_pos {c : Cf} (hc : chk c = 0) {k : Nat} (hk : k < c.cores.toNat) : 0 < (rowOf c k).length := by
  have R := right_of hc
  have := grid_row R (i := k) (by have := R.tl; omega)
  unfold rowOf
  omega

theorem works_skip {M : MDat} {d k : Nat} {S : So} {t v : Int} (hc : chk M.c = 0) (hk : k < M.c.cores.toNat) (h1 : t ≤ v) (h2 : v < coreF M d k S t) : So.works M d k S v = S := by
  unfold So.works
  unfold coreF at h2
  by_cases c1 : S.how.getD k 0 = 2
  · rw [if_pos c1] at h2
    rw [if_neg (by omega), if_pos (Or.inl (by omega))]
  · rw [if_neg c1] at h2
    rw [if_neg (by omega)]
    by_cases c2 : S.how.getD k 0 = 0 ∧ S.next.getD k 0 < (progF M d k).length
    · rw [if_pos c2] at h2
      by_cases c3 : v < S.free.getD k 0
      · rw [if_pos (Or.inr (Or.inl c3))]
      · refine if_pos (Or.inr (Or.inr (Or.inr ?_)))
        by_cases c4 : t < S.free.getD k 0
        · rw [if_pos c4] at h2
          exact opens_spec (right_of hc) (row_pos hc hk) (by omega) h2
        · rw [if_neg c4] at h2
          exact opens_spec (right_of hc) (row_pos hc hk) h1 h2
    · refine if_pos ?_
      by_cases c3 : S.how.getD k 0 = 0
      · right; right; left; omega
      · exact Or.inl c3

theorem worksAll_skip {M : MDat} {d : Nat} {S : So} {t v : Int} (hc : chk M.c = 0) (h1 : t ≤ v) : ∀ (n j : Nat), j + n ≤ M.c.cores.toNat → (∀ i, j ≤ i → i < j + n → v < coreF M d i S t) → So.worksAll M d v n j S = S
  | 0, _, _, _ => rfl
  | n + 1, j, hj, h => by
    unfold So.worksAll
    rw [works_skip hc (by omega) h1 (h j (Nat.le_refl _) (by omega))]
    exact worksAll_skip hc h1 n (j + 1) (by omega) (fun i h3 h4 => h i (by omega) (by omega))

theorem wait_skip {c : Cf} {d : Nat} {t v : Int} (hc : chk c = 0) (hd : (d : Int) < c.domains) (t0 : 0 ≤ t) (h1 : t ≤ v) (h2 : v < waitZ c d t) : servesB c d v = false := by
  have R := right_of hc
  obtain ⟨n, rfl⟩ := Int.eq_ofNat_of_zero_le t0
  have hs := R.s1
  have hcnt := serves_count c d hs n
  have hpos := owns_slot (chk_zero hc).2.2.1 (d := (d : Int)) (by omega) hd
  have e : ((c.slots.length : Int) * c.slot).toNat = c.slots.length * c.slot.toNat := by
    have : (c.slots.length : Int) * c.slot = ((c.slots.length * c.slot.toNat : Nat) : Int) := by
      rw [Int.natCast_mul, Int.toNat_of_nonneg (by omega)]
    rw [this, Int.toNat_natCast]
  obtain ⟨_, _, _, h4⟩ := firstF_spec (p := servesB c d) (c.slots.length * c.slot.toNat) (n : Int) (by omega)
  unfold waitZ at h2
  rw [e] at h2
  exact h4 v h1 h2

theorem cycle_skip {M : MDat} {d : Nat} {S : So} {t v : Int} (hc : chk M.c = 0) (hd : (d : Int) < M.c.domains) (t0 : 0 ≤ t) (h1 : t ≤ v) (h2 : v < soonZ M d S t) : So.cycle M d S v = S := by
  obtain ⟨g1, g2⟩ := soonF_le M d S t M.c.cores.toNat 0 (if S.queue = [] then neverZ else waitZ M.c d t)
  have s : So.service M d S v = S := by
    unfold So.service
    by_cases c1 : S.queue = []
    · by_cases c2 : servesB M.c d v = true
      · rw [if_pos c2]; unfold So.serve; rw [c1]
      · rw [if_neg c2]
    · rw [if_neg c1] at g1
      unfold soonZ at h2
      rw [if_neg c1] at h2
      rw [wait_skip hc hd t0 h1 (by omega)]
      simp
  unfold So.cycle
  rw [s]
  exact worksAll_skip hc h1 _ 0 (by omega) (fun i h3 h4 => by
    have := g2 i h3 h4
    unfold soonZ at h2
    omega)

theorem upto_skip {M : MDat} {d : Nat} (hc : chk M.c = 0) (hd : (d : Int) < M.c.domains) (t0 : Nat) : ∀ (n : Nat), (((t0 + n : Nat) : Int) ≤ soonZ M d (So.upto M d t0) t0) → So.upto M d (t0 + n) = So.upto M d t0
  | 0, _ => rfl
  | n + 1, h => by
    have ih := upto_skip hc hd t0 n (by omega)
    show So.cycle M d (So.upto M d (t0 + n)) ((t0 + n : Nat) : Int) = _
    rw [ih]
    exact cycle_skip hc hd (t := (t0 : Int)) (by omega) (by omega) (by omega)

end Go.Proofs.YtcmcfafhllpojaaGreat

namespace Go.Proofs.YtcmcfafhllpojaaGreat

theorem firstF_ge {p : Int → Bool} : ∀ (n : Nat) (u : Int), u ≤ firstF p n u
  | 0, u => Int.le_refl _
  | n + 1, u => by
    unfold firstF
    by_cases h : p u = true
    · rw [if_pos h]; exact Int.le_refl _
    · rw [if_neg h]; have := firstF_ge (p := p) n (u + 1); omega

theorem firstF_lt {p : Int → Bool} : ∀ (n : Nat) (u : Int), firstF p n u ≤ u + n
  | 0, u => by simp [firstF]
  | n + 1, u => by
    unfold firstF
    by_cases h : p u = true
    · rw [if_pos h]; omega
    · rw [if_neg h]; have := firstF_lt (p := p) n (u + 1); omega

theorem getD_set_ne {xs : List Int} {k j : Nat} {v : Int} (h : j ≠ k) : (xs.set k v).getD j 0 = xs.getD j 0 := by
  rw [List.getD_eq_getElem?_getD, List.getElem?_set_ne (fun e => h e.symm), List.getD_eq_getElem?_getD]

theorem soonF_ge (M : MDat) (d : Nat) (S : So) (t : Int) : ∀ (n j : Nat) (u : Int), t ≤ u → (∀ i, j ≤ i → i < j + n → t ≤ coreF M d i S t) → t ≤ soonF M d S t n j u
  | 0, _, u, h, _ => h
  | n + 1, j, u, h, hc => by
    unfold soonF
    refine soonF_ge M d S t n (j + 1) _ ?_ (fun i h1 h2 => hc i (by omega) (by omega))
    by_cases g : coreF M d j S t < u
    · rw [if_pos g]; exact hc j (Nat.le_refl _) (by omega)
    · rw [if_neg g]; exact h

theorem opensZ_ge {c : Cf} {k : Nat} {d t : Int} (R : Right c) (h : t ≤ neverZ) : t ≤ opensZ c k d t := by
  have q1 := R.q1
  have w0 := R.w0
  have f1 := R.f1
  rcases opensF_ge (k := k) (d := d) (show 0 < c.quantum by omega) ((rowOf c k).length + 1) t with g | g
  · exact g
  · unfold opensZ; rw [g]; exact h

theorem soon_ge {M : MDat} {d : Nat} {S : So} {t : Int} (hc : chk M.c = 0) (hf : FailOk M S t) (hfr : ∀ k, k < M.c.cores.toNat → S.free.getD k 0 ≤ 10001) (h : t ≤ 20000) : t ≤ soonZ M d S t := by
  have R := right_of hc
  unfold soonZ
  refine soonF_ge M d S t _ 0 _ ?_ (fun i _ h2 => ?_)
  · by_cases g : S.queue = []
    · rw [if_pos g]; unfold neverZ; omega
    · rw [if_neg g]; exact firstF_ge _ _
  · unfold coreF
    by_cases c1 : S.how.getD i 0 = 2
    · rw [if_pos c1]; exact hf i (by omega) c1
    · rw [if_neg c1]
      by_cases c2 : S.how.getD i 0 = 0 ∧ S.next.getD i 0 < (progF M d i).length
      · rw [if_pos c2]
        by_cases c3 : t < S.free.getD i 0
        · rw [if_pos c3]
          have := hfr i (by omega)
          have := opensZ_ge (k := i) (d := (d : Int)) (t := S.free.getD i 0) R (by unfold neverZ; omega)
          omega
        · rw [if_neg c3]
          exact opensZ_ge R (by unfold neverZ; omega)
      · rw [if_neg c2]; unfold neverZ; omega

theorem done_other {S : So} {k j : Nat} {t v f : Int} (h : j ≠ k) : (S.done k t v f).how.getD j 0 = S.how.getD j 0 ∧ (S.done k t v f).began.getD j 0 = S.began.getD j 0 := by
  refine ⟨?_, rfl⟩
  show (S.how.set k 0).getD j 0 = _
  exact getD_set_ne h

theorem done_how {S : So} {k j : Nat} {t v f : Int} (h : (S.done k t v f).how.getD j 0 = 2) : S.how.getD j 0 = 2 ∧ (S.done k t v f).began.getD j 0 = S.began.getD j 0 := by
  by_cases e : j = k
  · subst e
    unfold So.done at h
    simp only at h
    rw [List.getD_eq_getElem?_getD, List.getElem?_set_self'] at h
    cases hq : S.how[j]? with
    | none => rw [hq] at h; simp at h
    | some x => rw [hq] at h; simp at h
  · exact ⟨by rw [← (done_other e).1]; exact h, rfl⟩

theorem service_how {M : MDat} {d : Nat} {S : So} {t : Int} {j : Nat} (h : (So.service M d S t).how.getD j 0 = 2) : S.how.getD j 0 = 2 ∧ (So.service M d S t).began.getD j 0 = S.began.getD j 0 := by
  unfold So.service at h ⊢
  by_cases c1 : servesB M.c d t = true
  · rw [if_pos c1] at h ⊢
    unfold So.serve at h ⊢
    cases hq : S.queue with
    | nil => simp only [hq] at h ⊢; exact ⟨h, trivial⟩
    | cons q r =>
      simp only [hq] at h ⊢
      split at h
      · rename_i g1
        rw [if_pos g1]
        split at h
        · rename_i g2
          rw [if_pos g2]
          have g := done_how h
          exact ⟨g.1, g.2⟩
        · rename_i g2
          rw [if_neg g2]
          have g := done_how h
          exact ⟨g.1, g.2⟩
      · rename_i g1
        rw [if_neg g1]
        split at h
        · rename_i g2
          rw [if_pos g2]
          split at h
          · rename_i g3
            rw [if_pos g3]
            exact ⟨h, rfl⟩
          · rename_i g3
            rw [if_neg g3]
            exact ⟨h, rfl⟩
        · rename_i g2
          rw [if_neg g2]
          exact ⟨h, rfl⟩
  · rw [if_neg c1] at h ⊢
    exact ⟨h, rfl⟩

theorem begin_other {M : MDat} {d : Nat} {S : So} {t : Int} {k j : Nat} (h : j ≠ k) : (So.begin M d k S t).how.getD j 0 = S.how.getD j 0 ∧ (So.begin M d k S t).began.getD j 0 = S.began.getD j 0 := by
  unfold So.begin
  by_cases c1 : faultF M.c (opAt M d k S) ≠ 0
  · simp only [if_pos c1]
    exact ⟨getD_set_ne h, getD_set_ne h⟩
  · simp only [if_neg c1]
    by_cases c2 : stateF M.c k ((opAt M d k S).2.1 / M.c.line) t false S.log = 0 ∨ ((opAt M d k S).1 = 1 ∧ stateF M.c k ((opAt M d k S).2.1 / M.c.line) t false S.log = 1)
    · simp only [if_pos c2]
      exact ⟨getD_set_ne h, getD_set_ne h⟩
    · simp only [if_neg c2]
      by_cases c3 : (opAt M d k S).1 = 1
      · simp only [if_pos c3]
        refine ⟨(done_other h).1, ?_⟩
        rw [(done_other h).2]
        exact getD_set_ne h
      · simp only [if_neg c3]
        refine ⟨(done_other h).1, ?_⟩
        rw [(done_other h).2]
        exact getD_set_ne h

theorem works_other {M : MDat} {d : Nat} {S : So} {t : Int} {k j : Nat} (h : j ≠ k) : (So.works M d k S t).how.getD j 0 = S.how.getD j 0 ∧ (So.works M d k S t).began.getD j 0 = S.began.getD j 0 := by
  unfold So.works
  by_cases c1 : S.how.getD k 0 = 2 ∧ t = S.began.getD k 0 + 2
  · rw [if_pos c1]; exact done_other h
  · rw [if_neg c1]
    by_cases c2 : S.how.getD k 0 ≠ 0 ∨ t < S.free.getD k 0 ∨ ((progF M d k).length : Int) ≤ S.next.getD k 0 ∨ openB M.c k d t = false
    · rw [if_pos c2]; exact ⟨rfl, rfl⟩
    · rw [if_neg c2]; exact begin_other h

theorem begin_began {M : MDat} {d : Nat} {S : So} {t : Int} {k : Nat} (hk : k < S.began.length) : (So.begin M d k S t).began.getD k 0 = t := by
  have e : (S.began.set k t).getD k 0 = t := by rw [getD_set hk, if_pos rfl]
  unfold So.begin
  by_cases c1 : faultF M.c (opAt M d k S) ≠ 0
  · simp only [if_pos c1]; exact e
  · simp only [if_neg c1]
    by_cases c2 : stateF M.c k ((opAt M d k S).2.1 / M.c.line) t false S.log = 0 ∨ ((opAt M d k S).1 = 1 ∧ stateF M.c k ((opAt M d k S).2.1 / M.c.line) t false S.log = 1)
    · simp only [if_pos c2]; exact e
    · simp only [if_neg c2]
      by_cases c3 : (opAt M d k S).1 = 1
      · simp only [if_pos c3]; exact e
      · simp only [if_neg c3]; exact e

theorem works_fail {M : MDat} {d : Nat} {S : So} {t : Int} {k : Nat} (hk : k < S.began.length) (hf : S.how.getD k 0 = 2 → t ≤ S.began.getD k 0 + 2) (h : (So.works M d k S t).how.getD k 0 = 2) : t + 1 ≤ (So.works M d k S t).began.getD k 0 + 2 := by
  unfold So.works at h ⊢
  by_cases c1 : S.how.getD k 0 = 2 ∧ t = S.began.getD k 0 + 2
  · rw [if_pos c1] at h
    exfalso
    unfold So.done at h
    simp only at h
    rw [List.getD_eq_getElem?_getD, List.getElem?_set_self'] at h
    cases hq : S.how[k]? with
    | none => rw [hq] at h; simp at h
    | some x => rw [hq] at h; simp at h
  · rw [if_neg c1] at h ⊢
    by_cases c2 : S.how.getD k 0 ≠ 0 ∨ t < S.free.getD k 0 ∨ ((progF M d k).length : Int) ≤ S.next.getD k 0 ∨ openB M.c k d t = false
    · rw [if_pos c2] at h ⊢
      have := hf h
      omega
    · rw [if_neg c2] at h ⊢
      rw [begin_began hk]
      omega

theorem worksAll_fail {M : MDat} {d : Nat} {t : Int} (hc : chk M.c = 0) (t0 : 0 ≤ t) (t1 : t ≤ 10000) : ∀ (n j : Nat) (S : So) (B : Nat), SoOk M d S B → j + n = M.c.cores.toNat → (∀ i, i < M.c.cores.toNat → S.how.getD i 0 = 2 → if i < j then t + 1 ≤ S.began.getD i 0 + 2 else t ≤ S.began.getD i 0 + 2) → FailOk M (So.worksAll M d t n j S) (t + 1)
  | 0, j, S, _, _, hj, h => fun i hi hh => by
    have := h i hi hh
    rw [if_pos (by omega)] at this
    exact this
  | n + 1, j, S, B, hs, hj, h => by
    unfold So.worksAll
    refine worksAll_fail hc t0 t1 n (j + 1) _ _ (hs.works hc (k := j) (by omega) t0 t1) (by omega) (fun i hi hh => ?_)
    by_cases e : i = j
    · subst e
      rw [if_pos (by omega)]
      exact works_fail (by rw [hs.bl]; exact hi) (fun h2 => by have := h i hi h2; rw [if_neg (by omega)] at this; exact this) hh
    · obtain ⟨g1, g2⟩ := works_other (M := M) (d := d) (S := S) (t := t) e
      rw [g1] at hh
      rw [g2]
      have := h i hi hh
      by_cases g : i < j
      · rw [if_pos g] at this; rw [if_pos (by omega)]; exact this
      · rw [if_neg g] at this; rw [if_neg (by omega)]; exact this

theorem fail_cycle {M : MDat} {d : Nat} {S : So} {t : Int} {B : Nat} (hs : SoOk M d S B) (hc : chk M.c = 0) (t0 : 0 ≤ t) (t1 : t ≤ 10000) (hf : FailOk M S t) : FailOk M (So.cycle M d S t) (t + 1) := by
  unfold So.cycle
  refine worksAll_fail hc t0 t1 _ 0 _ _ (hs.service hc t0 t1) (by omega) (fun i hi hh => ?_)
  rw [if_neg (by omega)]
  obtain ⟨g1, g2⟩ := service_how hh
  rw [g2]
  exact hf i hi g1

theorem fail_upto {M : MDat} {d : Nat} (hc : chk M.c = 0) : ∀ (T : Nat), T ≤ 10000 → FailOk M (So.upto M d T) T
  | 0, _ => fun k _ h => by
    have z : (List.replicate M.c.cores.toNat (0 : Int)).getD k 0 = 0 := by
      rw [List.getD_eq_getElem?_getD, List.getElem?_replicate]; split <;> rfl
    have : (List.replicate M.c.cores.toNat (0 : Int)).getD k 0 = 2 := h
    rw [z] at this
    omega
  | t + 1, h => by
    have := fail_cycle (SoOk.upto (d := d) hc t (by omega)) hc (by omega) (by omega) (fail_upto hc t (by omega))
    exact this
end Go.Proofs.YtcmcfafhllpojaaGreat

namespace Go.Proofs.YtcmcfafhllpojaaGreat

theorem serve_store {M : MDat} {d k : Nat} {S : So} {q : List Int} {t oad ovl x : Int} (hq : S.queue = (k : Int) :: q) (ho : opAt M d k S = (1, oad, ovl)) (hx : oad / M.c.line = x) (hw : 0 ≤ whereF x S.log) :
    So.serve M d S t = ((({ S with queue := q } : So).told ⟨t, 3, k, x, whereF x S.log, true, false, 0, 0⟩).told ⟨t, 4, k, x, whereF x S.log, false, false, oad, ovl⟩).done k t ovl 0 := by
  unfold So.serve
  rw [hq]
  simp only [Int.toNat_natCast, ho, hx]
  rw [if_pos hw, if_pos trivial]

theorem serve_load {M : MDat} {d k : Nat} {S : So} {q : List Int} {t okd oad ovl x : Int} (hq : S.queue = (k : Int) :: q) (ho : opAt M d k S = (okd, oad, ovl)) (hk : okd ≠ 1) (hx : oad / M.c.line = x) (hw : 0 ≤ whereF x S.log) :
    So.serve M d S t = (({ S with queue := q } : So).told ⟨t, 3, k, x, whereF x S.log, false, loneF M.c k x t S.log M.c.cores.toNat 0 && decide (oad < M.c.priv), 0, 0⟩).done k t (wordF oad (firstF0 M d oad) (⟨t, 3, k, x, whereF x S.log, false, loneF M.c k x t S.log M.c.cores.toNat 0 && decide (oad < M.c.priv), 0, 0⟩ :: S.log)) 0 := by
  unfold So.serve
  rw [hq]
  simp only [Int.toNat_natCast, ho, hx]
  rw [if_pos hw, if_neg hk]
  rfl

theorem serve_gone {M : MDat} {d k : Nat} {S : So} {q : List Int} {t okd oad ovl x way y : Int} (hq : S.queue = (k : Int) :: q) (ho : opAt M d k S = (okd, oad, ovl)) (hx : oad / M.c.line = x) (hw : ¬ 0 ≤ whereF x S.log)
    (hc : chosenF M.c (M.c.ways.count (d : Int)) (x % M.c.sets) S.log = way) (hy : liesF M.c (x % M.c.sets) way S.log = y) (h0 : 0 ≤ y) (hm : markedF y S.log = true) :
    So.serve M d S t = S.told ⟨t, 2, 0, y, way, false, false, 0, 0⟩ := by
  unfold So.serve
  rw [hq]
  simp only [Int.toNat_natCast, ho, hx, hc, hy]
  rw [if_neg hw, if_pos h0, if_pos hm]

theorem serve_both {M : MDat} {d k : Nat} {S : So} {q : List Int} {t okd oad ovl x way y : Int} (hq : S.queue = (k : Int) :: q) (ho : opAt M d k S = (okd, oad, ovl)) (hx : oad / M.c.line = x) (hw : ¬ 0 ≤ whereF x S.log)
    (hc : chosenF M.c (M.c.ways.count (d : Int)) (x % M.c.sets) S.log = way) (hy : liesF M.c (x % M.c.sets) way S.log = y) (h0 : 0 ≤ y) (hm : markedF y S.log = false) :
    So.serve M d S t = (S.told ⟨t, 2, 0, y, way, false, false, 0, 0⟩).told ⟨t, 1, 0, x, way, false, false, 0, 0⟩ := by
  unfold So.serve
  rw [hq]
  simp only [Int.toNat_natCast, ho, hx, hc, hy]
  rw [if_neg hw, if_pos h0, if_neg (by rw [hm]; simp)]

theorem serve_fill {M : MDat} {d k : Nat} {S : So} {q : List Int} {t okd oad ovl x way y : Int} (hq : S.queue = (k : Int) :: q) (ho : opAt M d k S = (okd, oad, ovl)) (hx : oad / M.c.line = x) (hw : ¬ 0 ≤ whereF x S.log)
    (hc : chosenF M.c (M.c.ways.count (d : Int)) (x % M.c.sets) S.log = way) (hy : liesF M.c (x % M.c.sets) way S.log = y) (h0 : ¬ 0 ≤ y) :
    So.serve M d S t = S.told ⟨t, 1, 0, x, way, false, false, 0, 0⟩ := by
  unfold So.serve
  rw [hq]
  simp only [Int.toNat_natCast, ho, hx, hc, hy]
  rw [if_neg hw, if_neg h0]

/-- A domain owns 1, 2 or 4 ways. -/
theorem ways_small {c : Cf} (hc : chk c = 0) {d : Nat} (hd : (d : Int) < c.domains) : smallB (c.ways.count (d : Int) : Nat) = true := by
  have h := (chk_zero hc).2.1
  simp only [waysB, Bool.and_eq_true] at h
  exact allUpto_true h.2 d (by omega)
end Go.Proofs.YtcmcfafhllpojaaGreat
