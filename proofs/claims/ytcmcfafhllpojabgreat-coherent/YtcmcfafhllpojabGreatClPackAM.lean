/-
  CohK, CohF
-/
import Derived.Test.YtcmcfafhllpojabGreatClCohere
import Derived.Test.YtcmcfafhllpojabGreatClPackAD
import Derived.Test.YtcmcfafhllpojabGreatClPackV
namespace Go.Proofs.YtcmcfafhllpojabGreat

theorem state_alone {c : Cf} {core x t : Int} : ∀ {lw : Bool} {L : List Ent}, (stateF c core x t lw L = 2 → ∃ e ∈ L, e.what = 3 ∧ e.lo = true ∧ e.line = x) ∧ (stateF c core x t lw L = 3 → ∃ e ∈ L, e.what = 4 ∧ e.line = x)
  | _, [] => ⟨fun h => by simp [stateF] at h, fun h => by simp [stateF] at h⟩
  | lw, e :: r => by
    have i1 := state_alone (c := c) (core := core) (x := x) (t := t) (lw := lw) (L := r)
    have i2 := state_alone (c := c) (core := core) (x := x) (t := t) (lw := true) (L := r)
    have up3 : (∃ e' ∈ r, e'.what = 3 ∧ e'.lo = true ∧ e'.line = x) → ∃ e' ∈ e :: r, e'.what = 3 ∧ e'.lo = true ∧ e'.line = x := fun ⟨e', h1, h2⟩ => ⟨e', List.mem_cons_of_mem _ h1, h2⟩
    have up4 : (∃ e' ∈ r, e'.what = 4 ∧ e'.line = x) → ∃ e' ∈ e :: r, e'.what = 4 ∧ e'.line = x := fun ⟨e', h1, h2⟩ => ⟨e', List.mem_cons_of_mem _ h1, h2⟩
    unfold stateF
    split
    · exact ⟨fun h => by omega, fun h => by omega⟩
    · split
      · exact ⟨fun h => by omega, fun h => by omega⟩
      · split
        · exact ⟨fun h => by omega, fun h => by omega⟩
        · split
          · exact ⟨fun h => by omega, fun h => by omega⟩
          · split
            · exact ⟨fun h => up3 (i2.1 h), fun h => up4 (i2.2 h)⟩
            · split
              · next q =>
                simp only [Bool.and_eq_true, beq_iff_eq] at q
                exact ⟨fun h => by omega, fun _ => ⟨e, List.mem_cons_self .., q.1.1.1, q.1.2⟩⟩
              · split
                · next q =>
                  simp only [Bool.and_eq_true, beq_iff_eq] at q
                  exact ⟨fun _ => ⟨e, List.mem_cons_self .., q.1.1.1.1, q.1.2, q.1.1.2⟩, fun h => by omega⟩
                · split
                  · exact ⟨fun h => by omega, fun h => by omega⟩
                  · exact ⟨fun h => up3 (i1.1 h), fun h => up4 (i1.2 h)⟩
theorem marked_entry {x : Int} : ∀ {L : List Ent}, markedF x L = true → ∃ e ∈ L, e.what = 4 ∧ e.line = x
  | [], h => by simp [markedF] at h
  | e :: r, h => by
    unfold markedF at h
    split at h
    · next q =>
      simp only [Bool.and_eq_true, beq_iff_eq] at q
      exact ⟨e, List.mem_cons_self .., q.2, q.1⟩
    · split at h
      · cases h
      · obtain ⟨e', h1, h2⟩ := marked_entry h
        exact ⟨e', List.mem_cons_of_mem _ h1, h2⟩

theorem cohK (x : Cs) (hz : chk x.c = 0) (d : Nat) (hd : (d : Int) < x.c.domains) (T : Nat) (hT : T ≤ 10000) : CohL x.c x.c.cores.toNat ((T : Int) - 1) (So.upto (datK x) d T).log :=
  coh_upto (M := datK x) (d := d) hz (fun T hT => by
    have L := (linksK x hz T hT).log d (by have := (nm_of hz).nd; omega)
    exact ⟨L.inc, fun e he => (L.lt e he).1⟩) T hT

/-- What lies at a place of a near cache behind T cycles. -/
theorem placeK (x : Cs) (hz : chk x.c = 0) (T : Nat) (hT : T ≤ 10000) (k p : Nat) (hk : k < x.c.cores.toNat) :
    (Mh.runs (cnOf x.c) T (machK x)).nr k p = cpE ∨ ∃ d y : Nat, (d : Int) < x.c.domains ∧ ((Mh.runs (cnOf x.c) T (machK x)).nr k p).dom = d ∧ ((Mh.runs (cnOf x.c) T (machK x)).nr k p).line = y ∧ y % x.c.near.toNat = p ∧ (((Mh.runs (cnOf x.c) T (machK x)).nr k p).st = 1 ∨ ((Mh.runs (cnOf x.c) T (machK x)).nr k p).st = 2 ∨ ((Mh.runs (cnOf x.c) T (machK x)).nr k p).st = 3) ∧
      stateF x.c k y ((T : Int) - 1) false (So.upto (datK x) d T).log = ((Mh.runs (cnOf x.c) T (machK x)).nr k p).st ∧ 1 ≤ T ∧ ((T : Int) - 1) % x.c.quantum < x.c.quantum - x.c.flush ∧ turnZ x.c k ((T : Int) - 1) = d ∧ (y : Int) * x.c.line < x.c.priv + x.c.shared ∧ 0 ≤ whereF y (So.upto (datK x) d T).log ∧
      (((Mh.runs (cnOf x.c) T (machK x)).nr k p).st ≠ 1 → (y : Int) * x.c.line < x.c.priv) ∧ (((Mh.runs (cnOf x.c) T (machK x)).nr k p).st = 3 → markedF y (So.upto (datK x) d T).log = true) := by
  have R := right_of hz
  have hN := nm_of hz
  have hpl : PlOk (cnOf x.c) (Mh.runs (cnOf x.c) T (machK x)).nr := PlOk.runs (N := cnOf x.c) hN (fun _ _ => Or.inl rfl) T
  rcases hpl k p with h | ⟨d, y, h1, h2, h3, h4, h5⟩
  · exact Or.inl h
  · right
    have hd : (d : Int) < x.c.domains := by have := hN.nd; omega
    have L := (linksK x hz T hT).log d h1
    have hst : stateN (cnOf x.c).nn (Mh.runs (cnOf x.c) T (machK x)).nr k d y = ((Mh.runs (cnOf x.c) T (machK x)).nr k p).st := by
      unfold stateN
      rw [h4, if_pos ⟨h2, h3⟩]
    have hs : stateF x.c k y ((T : Int) - 1) false (So.upto (datK x) d T).log = ((Mh.runs (cnOf x.c) T (machK x)).nr k p).st := (L.near k y hk).symm.trans hst
    have hne : stateF x.c k y ((T : Int) - 1) false (So.upto (datK x) d T).log ≠ 0 := by rw [hs]; omega
    obtain ⟨e, he, hw, hc, hl, hfl⟩ := state_entry hne
    obtain ⟨g1, g2⟩ := L.lt e he
    obtain ⟨j, hj, hjc, hjt, hjq⟩ := g2 hw
    have ejk : j = k := by omega
    subst ejk
    have hjq' : e.t % x.c.quantum < x.c.quantum - x.c.flush := hjq
    have hsame : e.t / x.c.quantum = ((T : Int) - 1) / x.c.quantum := same_turn R hjq' g1 hfl
    have hq1 := R.q1
    have hw0 := R.w0
    have hf1 := R.f1
    have hq0 : 0 < x.c.quantum := by omega
    have het := (SoOk.upto (M := datK x) (d := d) hz T hT).log e he
    have hv := logev_upto (M := datK x) (d := d) hz T hT e he hw
    obtain ⟨v, _, _, _, hvf, hvl, _⟩ := hv
    have hvl' : (opOf (datK x) d v).2.1 / x.c.line = y := by
      have : lineF (datK x) d v = (opOf (datK x) d v).2.1 / x.c.line := rfl
      rw [← this, hvl, hl]
    obtain ⟨f1, f2, f3, _⟩ := fault_line hz hvf
    rw [hvl'] at f3
    have C := cohK x hz d hd T hT
    have hte0 := het.t0
    refine ⟨d, y, hd, h2, h3, h4, h5, hs, ?_, ?_, ?_, by omega, L.inc _ y hk hne, fun hn1 => ?_, fun h3' => C.chg _ y hk (hs.trans h3')⟩
    · have : e.t ≤ (T : Int) - 1 := g1
      omega
    · -- not yet flushed
      have e1 := Int.mul_ediv_add_emod e.t x.c.quantum
      have e2 := Int.mul_ediv_add_emod ((T : Int) - 1) x.c.quantum
      refine Classical.byContradiction fun hge => ?_
      have hfl2 : flushedB x.c e.t ((T : Int) - 1) = true := (flushed_iff R).2 ⟨e.t / x.c.quantum, by
        have : e.t / x.c.quantum * x.c.quantum = x.c.quantum * (e.t / x.c.quantum) := Int.mul_comm _ _
        omega, by
        have : e.t / x.c.quantum * x.c.quantum = x.c.quantum * (((T : Int) - 1) / x.c.quantum) := by rw [hsame, Int.mul_comm]
        omega⟩
      rw [hfl] at hfl2
      cases hfl2
    · unfold turnZ at hjt ⊢
      rw [← hsame]
      exact hjt
    · rcases h5 with q | q | q
      · exact absurd q hn1
      · obtain ⟨e', he', w3, wl, el⟩ := state_alone.1 (hs.trans q)
        have := C.prv e' he' (Or.inr ⟨w3, wl⟩)
        rw [el] at this
        exact this
      · obtain ⟨e', he', w4, el⟩ := state_alone.2 (hs.trans q)
        have := C.prv e' he' (Or.inl w4)
        rw [el] at this
        exact this
end Go.Proofs.YtcmcfafhllpojabGreat

namespace Go.Proofs.YtcmcfafhllpojabGreat

theorem lies_entry {c : Cf} {s j : Int} : ∀ {L : List Ent}, 0 ≤ liesF c s j L → ∃ e ∈ L, e.what = 1 ∧ e.line = liesF c s j L
  | [], h => by simp [liesF] at h
  | e :: r, h => by
    unfold liesF at h ⊢
    split at h
    · next q =>
      rw [if_pos q]
      simp only [Bool.and_eq_true, beq_iff_eq] at q
      exact ⟨e, List.mem_cons_self .., q.2, rfl⟩
    · next q =>
      rw [if_neg q]
      split at h
      · omega
      · next q2 =>
        rw [if_neg q2]
        obtain ⟨e', h1, h2, h3⟩ := lies_entry h
        exact ⟨e', List.mem_cons_of_mem _ h1, h2, h3⟩

/-- What lies in a way behind T cycles. -/
theorem farK (x : Cs) (hz : chk x.c = 0) (d : Nat) (hd : (d : Int) < x.c.domains) (T : Nat) (hT : T ≤ 10000) (s j : Nat) (hs : s < x.c.sets.toNat) (hj : j < x.c.ways.count (d : Int)) :
    (((Mh.runs (cnOf x.c) T (machK x)).blk d s j).line = -1 ∧ ((Mh.runs (cnOf x.c) T (machK x)).blk d s j).mkd = false) ∨ ∃ y : Nat, ((Mh.runs (cnOf x.c) T (machK x)).blk d s j).line = y ∧ y % x.c.sets.toNat = s ∧ (y : Int) * x.c.line < x.c.priv + x.c.shared ∧ ((Mh.runs (cnOf x.c) T (machK x)).blk d s j).mkd = markedF y (So.upto (datK x) d T).log ∧ (markedF y (So.upto (datK x) d T).log = true → (y : Int) * x.c.line < x.c.priv) := by
  have hN := nm_of hz
  have L := (linksK x hz T hT).log d (by have := hN.nd; omega)
  have C := cohK x hz d hd T hT
  have hlo := L.far.low s j hs hj
  by_cases h : 0 ≤ ((Mh.runs (cnOf x.c) T (machK x)).blk d s j).line
  · right
    obtain ⟨y, hy⟩ := Int.eq_ofNat_of_zero_le h
    have hset := L.far.set s j hs hj h
    have hln : ((Mh.runs (cnOf x.c) T (machK x)).blk d s j).line = liesF x.c s j (So.upto (datK x) d T).log := L.far.line s j hs hj
    rw [hy] at hset hln
    obtain ⟨e, he, hw, hl⟩ := lies_entry (c := x.c) (s := (s : Int)) (j := (j : Int)) (L := (So.upto (datK x) d T).log) (by rw [← hln]; omega)
    have hlin := C.lin e he hw
    rw [hl, ← hln] at hlin
    have hmk := L.far.mkd s j hs hj h
    rw [hy] at hmk
    refine ⟨y, hy, ?_, hlin, hmk, fun q => ?_⟩
    · have : ((cnOf x.c).ns : Int) = x.c.sets := hN.ns
      have e1 : (cnOf x.c).ns = x.c.sets.toNat := rfl
      rw [e1] at hset
      have : ((y % x.c.sets.toNat : Nat) : Int) = (s : Int) := by rw [Int.natCast_emod]; exact hset
      omega
    · obtain ⟨e', he', w4, el⟩ := marked_entry q
      have := C.prv e' he' (Or.inl w4)
      rw [el] at this
      exact this
  · left
    exact ⟨by omega, L.emp s j hs hj (by omega)⟩

/-- A line lies in one way alone. -/
theorem far_oneK (x : Cs) (hz : chk x.c = 0) (d : Nat) (hd : (d : Int) < x.c.domains) (T : Nat) (hT : T ≤ 10000) (s s' i j : Nat) (hs : s < x.c.sets.toNat) (hs' : s' < x.c.sets.toNat) (hi : i < x.c.ways.count (d : Int)) (hj : j < x.c.ways.count (d : Int)) (h0 : 0 ≤ ((Mh.runs (cnOf x.c) T (machK x)).blk d s i).line)
    (he : ((Mh.runs (cnOf x.c) T (machK x)).blk d s i).line = ((Mh.runs (cnOf x.c) T (machK x)).blk d s' j).line) : s = s' ∧ i = j := by
  have hN := nm_of hz
  have L := (linksK x hz T hT).log d (by have := hN.nd; omega)
  have h1 := L.far.set s i hs hi h0
  have h2 := L.far.set s' j hs' hj (by omega)
  rw [he, h2] at h1
  have es : s = s' := by omega
  subst es
  exact ⟨rfl, L.far.one s i j hs hi hj h0 he⟩

/-- Whether a line lies in the far cache. -/
theorem far_inK (x : Cs) (hz : chk x.c = 0) (d : Nat) (hd : (d : Int) < x.c.domains) (T : Nat) (hT : T ≤ 10000) (y : Nat) : 0 ≤ whereF y (So.upto (datK x) d T).log ↔ ∃ j, j < x.c.ways.count (d : Int) ∧ ((Mh.runs (cnOf x.c) T (machK x)).blk d (y % x.c.sets.toNat) j).line = y := by
  have hN := nm_of hz
  have L := (linksK x hz T hT).log d (by have := hN.nd; omega)
  have e1 : (cnOf x.c).ns = x.c.sets.toNat := rfl
  have e2 : (cnOf x.c).wn d = x.c.ways.count (d : Int) := rfl
  have hm : y % x.c.sets.toNat < x.c.sets.toNat := Nat.mod_lt _ (by have := hN.s0; omega)
  rw [L.far.wh y, e1, e2]
  constructor
  · intro h
    refine Classical.byContradiction fun q => ?_
    have : wayF ((Mh.runs (cnOf x.c) T (machK x)).blk d (y % x.c.sets.toNat)) (x.c.ways.count (d : Int)) y = -1 := way_none (fun i hi e => q ⟨i, hi, e⟩)
    omega
  · rintro ⟨j, hj, he⟩
    rw [way_is hj he (fun i hi e => (L.far.one _ i j hm hi hj (by rw [e]; omega) (by rw [e, he])))]
    omega

/-- What is not marked, or does not lie there, stands in memory as the trace left it. -/
theorem memK (x : Cs) (hz : chk x.c = 0) (d : Nat) (hd : (d : Int) < x.c.domains) (T : Nat) (hT : T ≤ 10000) (a : Nat) (ha : a < x.c.priv.toNat + x.c.shared.toNat) (hc : whereF ((a / x.c.line.toNat : Nat) : Int) (So.upto (datK x) d T).log < 0 ∨ markedF ((a / x.c.line.toNat : Nat) : Int) (So.upto (datK x) d T).log = false) :
    wordM x.c.priv.toNat x.c.shared.toNat ((Mh.runs (cnOf x.c) T (machK x)).own d) (Mh.runs (cnOf x.c) T (machK x)).sh a = replay (datK x) d (So.upto (datK x) d T).evs a := by
  have hN := nm_of hz
  have L := (linksK x hz T hT).log d (by have := hN.nd; omega)
  have hw := (book_upto (M := datK x) (d := d) hz T hT).2.word a
  rw [← hw]
  unfold wordM
  by_cases g : a < x.c.priv.toNat
  · rw [if_pos g]
    exact L.mem.cln a g hc
  · rw [if_neg g, if_pos (by omega)]
    rw [L.mem.shw a (by show x.c.priv.toNat ≤ a; omega)]
    exact L.sh a (by show x.c.priv.toNat ≤ a; omega) ha
end Go.Proofs.YtcmcfafhllpojabGreat
