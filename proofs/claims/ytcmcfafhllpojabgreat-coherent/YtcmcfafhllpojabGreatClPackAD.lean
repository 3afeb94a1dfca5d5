/-
  Wall, Place
-/
import Derived.Test.YtcmcfafhllpojabGreatClPackB
import Derived.Test.YtcmcfafhllpojabGreatClPackY
namespace Go.Proofs.YtcmcfafhllpojabGreat

/-- Two machines that agree in the domain d. -/
structure Agree (M M' : MDat) (d : Nat) : Prop where
  c : M.c = M'.c
  pr : ∀ k, k < M.c.cores.toNat → progF M d k = progF M' d k
  fst : ∀ a, firstF0 M d a = firstF0 M' d a

theorem Agree.op {M M' : MDat} {d : Nat} (h : Agree M M' d) {k : Nat} (hk : k < M.c.cores.toNat) (S : So) : opAt M d k S = opAt M' d k S := by
  unfold opAt
  rw [h.pr k hk]
theorem Agree.serve {M M' : MDat} {d : Nat} (h : Agree M M' d) {S : So} {B : Nat} (hs : SoOk M d S B) (t : Int) : So.serve M d S t = So.serve M' d S t := by
  unfold So.serve
  cases hq : S.queue with
  | nil => rfl
  | cons q r =>
    obtain ⟨k, rfl, hk, _⟩ := hs.qu q (by rw [hq]; exact List.mem_cons_self ..)
    simp only [Int.toNat_natCast, h.op hk S, h.fst, h.c]
theorem Agree.service {M M' : MDat} {d : Nat} (h : Agree M M' d) {S : So} {B : Nat} (hs : SoOk M d S B) (t : Int) : So.service M d S t = So.service M' d S t := by
  unfold So.service
  rw [h.serve hs, h.c]
theorem Agree.works {M M' : MDat} {d : Nat} (h : Agree M M' d) {k : Nat} (hk : k < M.c.cores.toNat) (S : So) (t : Int) : So.works M d k S t = So.works M' d k S t := by
  unfold So.works So.begin
  simp only [h.op hk S, h.pr k hk, h.fst, h.c]
theorem Agree.worksAll {M M' : MDat} {d : Nat} (h : Agree M M' d) (t : Int) : ∀ (n j : Nat) (S : So), j + n ≤ M.c.cores.toNat → So.worksAll M d t n j S = So.worksAll M' d t n j S
  | 0, _, _, _ => rfl
  | n + 1, j, S, hj => by
    unfold So.worksAll
    rw [h.works (by omega) S t, h.worksAll t n (j + 1) _ (by omega)]
theorem Agree.upto {M M' : MDat} {d : Nat} (h : Agree M M' d) (hc : chk M.c = 0) : ∀ T : Nat, T ≤ 10000 → So.upto M d T = So.upto M' d T
  | 0, _ => by unfold So.upto; rw [h.c]
  | t + 1, hT => by
    have ih := h.upto hc t (by omega)
    unfold So.upto So.cycle
    rw [← ih, h.service (SoOk.upto hc t (by omega)), h.worksAll _ _ _ _ (by omega), h.c]
end Go.Proofs.YtcmcfafhllpojabGreat

namespace Go.Proofs.YtcmcfafhllpojabGreat

/-- A place holds nothing, or a line of its place of a domain. -/
def CpOk (N : Cn) (p : Nat) (c : Cp) : Prop := c = cpE ∨ ∃ d x : Nat, d < N.nd ∧ c.dom = d ∧ c.line = x ∧ x % N.nn = p ∧ (c.st = 1 ∨ c.st = 2 ∨ c.st = 3)
def PlOk (N : Cn) (nr : Nat → Nat → Cp) : Prop := ∀ k p, CpOk N p (nr k p)

theorem PlOk.put {N : Cn} {nr : Nat → Nat → Cp} (h : PlOk N nr) {d : Nat} (hd : d < N.nd) (k x : Nat) {s : Int} (hs : s = 1 ∨ s = 2 ∨ s = 3) : PlOk N (putN N.nn nr k d x s) := fun j p => by
  unfold putN up2
  split
  · next q => exact Or.inr ⟨d, x, hd, rfl, rfl, q.2.symm, hs⟩
  · exact h j p
theorem PlOk.drop {N : Cn} {nr : Nat → Nat → Cp} (h : PlOk N nr) (p : Nat → Bool) (d : Int) (x : Nat) : PlOk N (dropAllN p N.nn nr d x) := fun j q => by
  unfold dropAllN
  split
  · exact Or.inl rfl
  · exact h j q
theorem PlOk.share {N : Cn} {nr : Nat → Nat → Cp} (h : PlOk N nr) (p : Nat → Bool) {d : Nat} (hd : d < N.nd) (x : Nat) : PlOk N (shareAllN p N.nn nr d x) := fun j q => by
  unfold shareAllN
  split
  · next g => exact Or.inr ⟨d, x, hd, rfl, rfl, g.2.1.symm, Or.inl rfl⟩
  · exact h j q

theorem perform_nr (N : Cn) (m : Mh) (d : Nat) (o : OpT) : (m.perform N d o).nr = m.nr := by
  unfold Mh.perform
  simp only
  split <;> rfl
theorem endFault_nr (N : Cn) (m : Mh) (k : Nat) : (m.endFault N k).nr = m.nr := by
  unfold Mh.endFault
  split
  · rfl
  · split <;> rfl

theorem PlOk.begin {N : Cn} {m : Mh} (h : PlOk N m.nr) {d : Nat} (hd : d < N.nd) (k : Nat) (o : OpT) : PlOk N (m.begin N d k o).nr := by
  unfold Mh.begin
  simp only
  split
  · exact h
  · split
    · exact h
    · show PlOk N (Mh.perform N _ d o).nr
      rw [perform_nr]
      split
      · exact h.put hd _ _ (Or.inr (Or.inr rfl))
      · exact h
theorem PlOk.step {N : Cn} {m : Mh} (hN : Nm N.c N) (h : PlOk N m.nr) {k : Nat} (hk : k < N.nc) (served : Int) : PlOk N (m.step N served k).nr := by
  unfold Mh.step
  split
  · rw [endFault_nr]; exact h
  · split
    · exact h
    · split
      · exact h
      · next ho =>
        have ho' : openB N.c k (turnZ N.c k m.now) m.now = true := by simpa using ho
        have hr := lturn_range hN.right (by have := hN.nc; omega) ho'
        have hnd := hN.nd
        split
        · exact h
        · exact h.begin (by omega) _ _
theorem PlOk.hand {N : Cn} {m : Mh} (h : PlOk N m.nr) {d : Nat} (hd : d < N.nd) (k : Nat) (o : OpT) : PlOk N (m.hand N d k o).nr := by
  unfold Mh.hand
  simp only
  split
  · exact (h.drop _ _ _).put hd _ _ (Or.inr (Or.inr rfl))
  · refine (h.share _ hd _).put hd _ _ ?_
    split
    · exact Or.inl rfl
    · exact Or.inr (Or.inl rfl)
theorem PlOk.fetch {N : Cn} {m : Mh} (h : PlOk N m.nr) (d x : Nat) : PlOk N (m.fetch N d x).nr := by
  unfold Mh.fetch
  simp only
  split
  · show PlOk N (ite _ _ _ : Mh).nr
    split
    · exact h
    · exact h.drop _ _ _
  · show PlOk N (ite _ _ _ : Mh).nr
    split
    · exact h
    · exact h.drop _ _ _
theorem PlOk.serve {N : Cn} {m : Mh} (h : PlOk N m.nr) {d : Nat} (hd : d < N.nd) : PlOk N (m.serve N d).1.nr := by
  unfold Mh.serve
  split
  · exact h
  · simp only
    split
    · exact h
    · split
      · exact h.fetch _ _
      · show PlOk N (Mh.perform N _ d _).nr
        rw [perform_nr]
        refine PlOk.hand ?_ hd _ _
        exact h
theorem PlOk.service {N : Cn} {m : Mh} (hN : Nm N.c N) (h : PlOk N m.nr) : PlOk N (m.service N).1.nr := by
  unfold Mh.service
  split
  · exact h
  · next g =>
    have hnd := hN.nd
    refine h.serve ?_
    rcases lserved_range hN.right m.now with q | q <;> omega
theorem PlOk.steps {N : Cn} (hN : Nm N.c N) (served : Int) : ∀ (n : Nat) {m : Mh}, n ≤ N.nc → PlOk N m.nr → PlOk N (Mh.steps N served n m).nr
  | 0, _, _, h => h
  | n + 1, _, hn, h => (PlOk.steps hN served n (by omega) h).step hN (by omega) served
theorem PlOk.cycle {N : Cn} {m : Mh} (hN : Nm N.c N) (h : PlOk N m.nr) : PlOk N (m.cycle N).nr := by
  unfold Mh.cycle
  simp only
  refine PlOk.steps hN _ _ (Nat.le_refl _) (PlOk.service hN ?_)
  split
  · exact fun _ _ => Or.inl rfl
  · exact h
theorem PlOk.runs {N : Cn} {m : Mh} (hN : Nm N.c N) (h : PlOk N m.nr) : ∀ T, PlOk N (Mh.runs N T m).nr
  | 0 => h
  | T + 1 => (PlOk.runs hN h T).cycle hN

/-- Two machines whose plays of the domain d are the same. -/
structure Twin (N : Cn) (d : Nat) (m m' : Mh) : Prop where
  tr : m.tr d = m'.tr d
  line : ∀ s j, s < N.ns → j < N.wn d → (m.blk d s j).line = (m'.blk d s j).line ∧ (m.blk d s j).mkd = (m'.blk d s j).mkd
  mem : ∀ a, a < N.pv + N.sn → wordM N.pv N.sn (m.own d) m.sh a = wordM N.pv N.sn (m'.own d) m'.sh a
  near : ∀ k p, k < N.nc → p < N.nn → ((m.nr k p).dom = d ∨ (m'.nr k p).dom = d) → m.nr k p = m'.nr k p

theorem near_side {N : Cn} {d k p : Nat} {nr nr' : Nat → Nat → Cp} (h : PlOk N nr) (hs : ∀ x : Nat, stateN N.nn nr k d x = stateN N.nn nr' k d x) (hd : (nr k p).dom = d) : nr k p = nr' k p := by
  rcases h k p with q | ⟨e, x, _, h2, h3, h4, h5⟩
  · rw [q] at hd
    have : (-1 : Int) = d := hd
    omega
  · have ed : e = d := by rw [h2] at hd; omega
    subst ed
    have hx := hs x
    have l1 : stateN N.nn nr k e x = (nr k p).st := by
      unfold stateN
      rw [h4, if_pos ⟨h2, h3⟩]
    have l2 : stateN N.nn nr' k e x = if (nr' k p).dom = e ∧ (nr' k p).line = x then (nr' k p).st else 0 := by
      unfold stateN
      rw [h4]
    rw [l1, l2] at hx
    by_cases g : (nr' k p).dom = e ∧ (nr' k p).line = x
    · rw [if_pos g] at hx
      generalize nr k p = A at *
      generalize nr' k p = B at *
      obtain ⟨a1, a2, a3⟩ := A
      obtain ⟨b1, b2, b3⟩ := B
      simp only at h2 h3 g hx
      rw [h2, h3, g.1, g.2, hx]
    · rw [if_neg g] at hx
      omega

theorem Links.twin {M M' : MDat} {N : Cn} {T : Nat} {m m' : Mh} {d : Nat} (hN : Nm M.c N) (hA : Agree M M' d) (hd : d < N.nd) (hT : T ≤ 10000) (h : Links M N T m) (h' : Links M' N T m') (hp : PlOk N m.nr) (hp' : PlOk N m'.nr) : Twin N d m m' := by
  have hU := hA.upto hN.right T hT
  have L := h.log d hd
  have L' := h'.log d hd
  rw [← hU, ← hA.c] at L'
  have hst : ∀ k, k < N.nc → ∀ x : Nat, stateN N.nn m.nr k d x = stateN N.nn m'.nr k d x := fun k hk x => (L.near k x hk).trans (L'.near k x hk).symm
  refine ⟨?_, fun s j hs hj => ?_, fun a ha => ?_, fun k p hk hp1 g => ?_⟩
  · rw [(h.core d hd).evs, (h'.core d hd).evs, hU]
  · have e1 : (m.blk d s j).line = (m'.blk d s j).line := (L.far.line s j hs hj).trans (L'.far.line s j hs hj).symm
    refine ⟨e1, ?_⟩
    by_cases g : 0 ≤ (m.blk d s j).line
    · rw [L.far.mkd s j hs hj g, L'.far.mkd s j hs hj (by omega), e1]
    · have lo := L.far.low s j hs hj
      rw [L.emp s j hs hj (by omega), L'.emp s j hs hj (by omega)]
  · unfold wordM
    by_cases g : a < N.pv
    · rw [if_pos g, if_pos g, L.mem.mem a g, L'.mem.mem a g, hA.fst]
    · rw [if_neg g, if_neg g, if_pos (by omega), if_pos (by omega), L.sh a (by omega) ha, L'.sh a (by omega) ha, hA.fst]
  · rcases g with g | g
    · exact near_side hp (hst k hk) g
    · exact (near_side hp' (fun x => (hst k hk x).symm) g).symm
end Go.Proofs.YtcmcfafhllpojabGreat
