/-
  KaseC, KaseM
-/
import Derived.Test.YtcmcfafhllpojabGreatClPackU
import Derived.Test.YtcmcfafhllpojabGreatClPackAV
import Derived.Test.YtcmcfafhllpojabGreatClPackY
import Derived.Test.YtcmcfafhllpojabGreatClPackB
import Derived.Test.YtcmcfafhllpojabGreatClPackA
namespace Go.Proofs.YtcmcfafhllpojabGreat
open Go.RowKit

/-- While a case's machine is laid down, or runs. -/
structure KSt (w wr : World) (x : Cs) (l : Cl) (X : XLoc) (m : Mh) : Prop where
  box : Row wr w.heap.size (csL x l) 33
  mach : MachM wr (cnOf x.c) X m
  mine : ∀ b, X.mine b → w.heap.size + 1 ≤ b
  bel : Below w.heap.size w wr

theorem KSt.goes {w wr wr' : World} {x : Cs} {l : Cl} {X X' : XLoc} {m m' : Mh} (h : KSt w wr x l X m) (hg : Goes wr wr' X X') (hM : MachM wr' (cnOf x.c) X' m') : KSt w wr' x l X' m' := by
  have hl := h.box.lt
  have hs := h.bel.size
  refine ⟨h.box.same (hg.tch.block _ hl (fun hm => by have := h.mine _ hm; omega)), hM, fun b hb => ?_, h.bel.trans (hg.tch.below _ hs (fun b hb => by have := h.mine b hb; omega))⟩
  by_cases c : b < wr.heap.size
  · exact h.mine b (hg.lab b c hb)
  · omega
theorem KSt.below {w wr wr' : World} {x : Cs} {l : Cl} {X : XLoc} {m : Mh} (h : KSt w wr x l X m) (hb : Below wr.heap.size wr wr') : KSt w wr' x l X m :=
  ⟨h.box.below hb h.box.lt, h.mach.below hb (Nat.le_refl _), h.mine, below_step h.bel hb rfl⟩
theorem KSt.cs {w wr : World} {x : Cs} {l : Cl} {X : XLoc} {m : Mh} (h : KSt w wr x l X m) (hc : CaseAt w x l) : CaseAt wr x l := hc.below h.bel (Nat.le_refl _)

/-- The programs that were given before the core K of the domain D. -/
def opsK (x : Cs) (nc D K : Nat) : Nat → Nat → List OpT := fun d k => if k < nc ∧ (d < D ∨ (d = D ∧ k < K)) then progK x (d * nc + k) else []
theorem opsK_start (x : Cs) (nc : Nat) : opsK x nc 0 0 = fun _ _ => [] := by
  funext d k
  unfold opsK
  rw [if_neg (by omega)]
theorem opsK_next (x : Cs) (nc D K : Nat) (hK : K < nc) : up2 (opsK x nc D K) D K (progK x (D * nc + K)) = opsK x nc D (K + 1) := by
  funext d k
  unfold up2 opsK
  by_cases h : d = D ∧ k = K
  · obtain ⟨rfl, rfl⟩ := h
    rw [if_pos ⟨rfl, rfl⟩, if_pos ⟨hK, by omega⟩]
  · rw [if_neg h]
    by_cases g : k < nc ∧ (d < D ∨ (d = D ∧ k < K))
    · rw [if_pos g, if_pos ⟨g.1, by omega⟩]
    · rw [if_neg g, if_neg (by omega)]
theorem opsK_row (x : Cs) (nc D : Nat) : opsK x nc D nc = opsK x nc (D + 1) 0 := by
  funext d k
  unfold opsK
  by_cases g : k < nc ∧ (d < D ∨ (d = D ∧ k < nc))
  · rw [if_pos g, if_pos ⟨g.1, by omega⟩]
  · rw [if_neg g, if_neg (by omega)]
theorem progK_ok (x : Cs) (i : Nat) : opsOk (progK x i) = true := by
  unfold progK
  split
  · next h => exact h
  · rfl
/-- The first words. -/
def ownStep (c : Cf) (g : Nat → Nat → Int) (o : OpT) : Nat → Nat → Int := if 0 ≤ o.1 ∧ o.1 < c.domains ∧ 0 ≤ o.2.1 ∧ o.2.1 < c.priv then up1 g o.1.toNat (up1 (g o.1.toNat) o.2.1.toNat o.2.2) else g
def ownK (c : Cf) (l : List OpT) : Nat → Nat → Int := l.foldl (ownStep c) (fun _ _ => 0)
def shStep (c : Cf) (g : Nat → Int) (o : OpT) : Nat → Int := if 0 ≤ o.2.1 ∧ o.2.1 < c.shared then up1 g o.2.1.toNat o.2.2 else g
def shK (c : Cf) (l : List OpT) : Nat → Int := l.foldl (shStep c) (fun _ => 0)
theorem ownK_take (c : Cf) (l : List OpT) {i : Nat} (hi : i < l.length) : ownK c (l.take (i + 1)) = ownStep c (ownK c (l.take i)) (l.getD i opZ) := by
  unfold ownK
  rw [List.take_add_one, List.foldl_append, List.getElem?_eq_getElem hi, List.getD_eq_getElem?_getD, List.getElem?_eq_getElem hi]
  rfl
theorem shK_take (c : Cf) (l : List OpT) {i : Nat} (hi : i < l.length) : shK c (l.take (i + 1)) = shStep c (shK c (l.take i)) (l.getD i opZ) := by
  unfold shK
  rw [List.take_add_one, List.foldl_append, List.getElem?_eq_getElem hi, List.getD_eq_getElem?_getD, List.getElem?_eq_getElem hi]
  rfl

/-- The case's machine. -/
def machK (x : Cs) : Mh := mkM (opsK x x.c.cores.toNat x.c.domains.toNat 0) (ownK x.c x.own) (shK x.c x.com)

theorem give_k (x : Cs) (nc D K : Nat) (own : Nat → Nat → Int) (sh : Nat → Int) (hK : K < nc) (hc : (nc : Int) = x.c.cores) (hD : (D : Int) < x.c.domains) :
    giveME (cnOf x.c) (mkM (opsK x nc D K) own sh) D K (progK x (D * nc + K)) = 0 ∧ giveMM (cnOf x.c) (mkM (opsK x nc D K) own sh) D K (progK x (D * nc + K)) = mkM (opsK x nc D (K + 1)) own sh := by
  have e0 : giveME (cnOf x.c) (mkM (opsK x nc D K) own sh) D K (progK x (D * nc + K)) = 0 := by
    unfold giveME
    rw [if_neg (by show ¬ ((D : Int) < 0 ∨ x.c.domains ≤ D ∨ (K : Int) < 0 ∨ x.c.cores ≤ K); omega), if_neg (by show ¬ (0 : Int) < 0; omega), if_pos (progK_ok _ _)]
  refine ⟨e0, ?_⟩
  have h := give_mk (cnOf x.c) (opsK x nc D K) own sh 0 rfl D K (progK x (D * nc + K))
  have h' : giveMM (cnOf x.c) (mkM (opsK x nc D K) own sh) D K (progK x (D * nc + K)) = if giveME (cnOf x.c) (mkM (opsK x nc D K) own sh) D K (progK x (D * nc + K)) = 0 then mkM (up2 (opsK x nc D K) (D : Int).toNat (K : Int).toNat (progK x (D * nc + K))) own sh else mkM (opsK x nc D K) own sh := h
  rw [h', if_pos e0, Int.toNat_natCast, Int.toNat_natCast, opsK_next x nc D K hK]

theorem fill_k (c : Cf) (ops : Nat → Nat → List OpT) (own : Nat → Nat → Int) (sh : Nat → Int) (o : OpT) :
    (fillME (cnOf c) (mkM ops own sh) o.1 o.2.1 == 0) = decide (0 ≤ o.1 ∧ o.1 < c.domains ∧ 0 ≤ o.2.1 ∧ o.2.1 < c.priv) ∧ fillMM (cnOf c) (mkM ops own sh) o.1 o.2.1 o.2.2 = mkM ops (ownStep c own o) sh := by
  have h := fill_mk (cnOf c) ops own sh 0 rfl o.1 o.2.1 o.2.2
  have h' : fillMM (cnOf c) (mkM ops own sh) o.1 o.2.1 o.2.2 = if fillME (cnOf c) (mkM ops own sh) o.1 o.2.1 = 0 then mkM ops (up1 own o.1.toNat (up1 (own o.1.toNat) o.2.1.toNat o.2.2)) sh else mkM ops own sh := h
  rw [h']
  by_cases g : 0 ≤ o.1 ∧ o.1 < c.domains ∧ 0 ≤ o.2.1 ∧ o.2.1 < c.priv
  · have e : fillME (cnOf c) (mkM ops own sh) o.1 o.2.1 = 0 := by
      unfold fillME
      rw [if_neg (by show ¬ (o.1 < 0 ∨ c.domains ≤ o.1 ∨ o.2.1 < 0 ∨ c.priv ≤ o.2.1); omega), if_neg (by show ¬ (0 : Int) < 0; omega)]
    rw [if_pos e, e]
    unfold ownStep
    rw [if_pos g]
    exact ⟨by simp [g], rfl⟩
  · have e : fillME (cnOf c) (mkM ops own sh) o.1 o.2.1 = 6 := by
      unfold fillME
      rw [if_pos (by show (o.1 < 0 ∨ c.domains ≤ o.1 ∨ o.2.1 < 0 ∨ c.priv ≤ o.2.1); omega)]
    rw [e, if_neg (by omega)]
    unfold ownStep
    rw [if_neg g]
    exact ⟨by rw [decide_eq_false g]; rfl, rfl⟩
theorem share_k (c : Cf) (ops : Nat → Nat → List OpT) (own : Nat → Nat → Int) (sh : Nat → Int) (o : OpT) :
    (shareME (cnOf c) (mkM ops own sh) o.2.1 == 0) = decide (0 ≤ o.2.1 ∧ o.2.1 < c.shared) ∧ shareMM (cnOf c) (mkM ops own sh) o.2.1 o.2.2 = mkM ops own (shStep c sh o) := by
  have h := share_mk (cnOf c) ops own sh 0 rfl o.2.1 o.2.2
  have h' : shareMM (cnOf c) (mkM ops own sh) o.2.1 o.2.2 = if shareME (cnOf c) (mkM ops own sh) o.2.1 = 0 then mkM ops own (up1 sh o.2.1.toNat o.2.2) else mkM ops own sh := h
  rw [h']
  by_cases g : 0 ≤ o.2.1 ∧ o.2.1 < c.shared
  · have e : shareME (cnOf c) (mkM ops own sh) o.2.1 = 0 := by
      unfold shareME
      rw [if_neg (by show ¬ (o.2.1 < 0 ∨ c.shared ≤ o.2.1); omega), if_neg (by show ¬ (0 : Int) < 0; omega)]
    rw [if_pos e, e]
    unfold shStep
    rw [if_pos g]
    exact ⟨by simp [g], rfl⟩
  · have e : shareME (cnOf c) (mkM ops own sh) o.2.1 = 6 := by
      unfold shareME
      rw [if_pos (by show (o.2.1 < 0 ∨ c.shared ≤ o.2.1); omega)]
    rw [e, if_neg (by omega)]
    unfold shStep
    rw [if_neg g]
    exact ⟨by rw [decide_eq_false g]; rfl, rfl⟩
/-- What Fill and Share answer, case by case. -/
theorem fill_cases (c : Cf) (m : Mh) (h0 : m.now = 0) (d a : Int) :
    (0 ≤ d ∧ d < c.domains ∧ 0 ≤ a ∧ a < c.priv ∧ fillME (cnOf c) m d a = 0) ∨ (¬ 0 ≤ d ∧ fillME (cnOf c) m d a = 6) ∨ (0 ≤ d ∧ ¬ d < c.domains ∧ fillME (cnOf c) m d a = 6) ∨ (0 ≤ d ∧ d < c.domains ∧ ¬ 0 ≤ a ∧ fillME (cnOf c) m d a = 6) ∨ (0 ≤ d ∧ d < c.domains ∧ 0 ≤ a ∧ ¬ a < c.priv ∧ fillME (cnOf c) m d a = 6) := by
  have e : fillME (cnOf c) m d a = if d < 0 ∨ c.domains ≤ d ∨ a < 0 ∨ c.priv ≤ a then 6 else if 0 < m.now then 7 else 0 := rfl
  rw [e, h0]
  by_cases b : d < 0 ∨ c.domains ≤ d ∨ a < 0 ∨ c.priv ≤ a
  · rw [if_pos b]; omega
  · rw [if_neg b]; simp; omega
theorem share_cases (c : Cf) (m : Mh) (h0 : m.now = 0) (a : Int) :
    (0 ≤ a ∧ a < c.shared ∧ shareME (cnOf c) m a = 0) ∨ (¬ 0 ≤ a ∧ shareME (cnOf c) m a = 6) ∨ (0 ≤ a ∧ ¬ a < c.shared ∧ shareME (cnOf c) m a = 6) := by
  have e : shareME (cnOf c) m a = if a < 0 ∨ c.shared ≤ a then 6 else if 0 < m.now then 7 else 0 := rfl
  rw [e, h0]
  by_cases b : a < 0 ∨ c.shared ≤ a
  · rw [if_pos b]; omega
  · rw [if_neg b]; simp; omega
end Go.Proofs.YtcmcfafhllpojabGreat

namespace Go.Proofs.YtcmcfafhllpojabGreat

/-- What a case's machine is given. -/
def datK (x : Cs) : MDat := ⟨x.c, fun i => progK x i, fun d => (List.range x.c.priv.toNat).map fun a => ownK x.c x.own d a, (List.range x.c.shared.toNat).map fun a => shK x.c x.com a⟩

theorem progK_kin (x : Cs) (i : Nat) : (progK x i).length ≤ 64 ∧ ∀ o ∈ progK x i, o.1 = 0 ∨ o.1 = 1 := by
  have h := progK_ok x i
  unfold opsOk at h
  simp only [Bool.and_eq_true, decide_eq_true_eq, List.all_eq_true] at h
  refine ⟨h.1, fun o ho => ?_⟩
  have := h.2 o ho
  unfold kindB at this
  simp only [Bool.or_eq_true, beq_iff_eq] at this
  exact this
theorem opsK_kin (x : Cs) (nc D K d k : Nat) : (opsK x nc D K d k).length ≤ 64 ∧ ∀ o ∈ opsK x nc D K d k, o.1 = 0 ∨ o.1 = 1 := by
  unfold opsK
  split
  · exact progK_kin x _
  · exact ⟨by simp, fun o ho => by simp at ho⟩

theorem machK_ok (x : Cs) : MhOk (cnOf x.c) (machK x) :=
  mkM_ok _ _ _ (fun d k => (opsK_kin x _ _ _ d k).1) (fun d k => (opsK_kin x _ _ _ d k).2)

theorem getD_map_range {n a : Nat} {f : Nat → Int} (h : a < n) : ((List.range n).map f).getD a 0 = f a := by
  rw [List.getD_eq_getElem?_getD, List.getElem?_map, List.getElem?_range h]
  rfl

theorem laidK (x : Cs) (hz : chk x.c = 0) : Laid (datK x) (cnOf x.c) (opsK x x.c.cores.toNat x.c.domains.toNat 0) (ownK x.c x.own) (shK x.c x.com) := by
  have hN := nm_of hz
  have hp := hN.pv
  have hs := hN.sn
  have e1 : (cnOf x.c).nc = x.c.cores.toNat := rfl
  have e2 : (cnOf x.c).nd = x.c.domains.toNat := rfl
  have e3 : (cnOf x.c).pv = x.c.priv.toNat := rfl
  have e4 : (cnOf x.c).sn = x.c.shared.toNat := rfl
  refine ⟨fun d k hd hk => ?_, fun d k _ _ => (opsK_kin x _ _ _ d k).2, fun d a hd ha => ?_, fun d a hd h1 h2 => ?_⟩
  · unfold opsK
    rw [if_pos ⟨by omega, by omega⟩]
    rfl
  · unfold firstF0
    show _ = if (a : Int) < x.c.priv then ((List.range x.c.priv.toNat).map fun a => ownK x.c x.own d a).getD (a : Int).toNat 0 else _
    rw [if_pos (by omega), Int.toNat_natCast, getD_map_range (by omega)]
  · unfold firstF0
    show _ = if (a : Int) < x.c.priv then _ else ((List.range x.c.shared.toNat).map fun a => shK x.c x.com a).getD ((a : Int) - x.c.priv).toNat 0
    rw [if_neg (by omega), show ((a : Int) - x.c.priv).toNat = a - (cnOf x.c).pv by omega, getD_map_range (by omega)]

/-- Behind T cycles. -/
theorem linksK (x : Cs) (hz : chk x.c = 0) (T : Nat) (hT : T ≤ 10000) : Links (datK x) (cnOf x.c) T (Mh.runs (cnOf x.c) T (machK x)) :=
  links_runs (M := datK x) (nm_of hz) rfl (links_start (laidK x hz) ⟨false, 0, 0⟩ rfl) T hT
theorem runsK_ok (x : Cs) (hz : chk x.c = 0) (T : Nat) : MhOk (cnOf x.c) (Mh.runs (cnOf x.c) T (machK x)) ∧ (Mh.runs (cnOf x.c) T (machK x)).now = T := by
  have := MhOk.runs (N := cnOf x.c) ⟨rfl, hz⟩ (machK_ok x) (by show (0 : Int) ≤ 0; omega) T
  refine ⟨this.1, this.2.trans ?_⟩
  show (0 : Int) + T = T
  omega

/-- The trace of a domain, and how many of it are a core's. -/
theorem traceK (x : Cs) (hz : chk x.c = 0) (T : Nat) (hT : T ≤ 10000) (d : Nat) (hd : (d : Int) < x.c.domains) : (Mh.runs (cnOf x.c) T (machK x)).tr d = (So.upto (datK x) d T).evs :=
  ((linksK x hz T hT).core d (by have := (nm_of hz).nd; omega)).evs
theorem atK_next (x : Cs) (hz : chk x.c = 0) (T : Nat) (hT : T ≤ 10000) (d k : Nat) (hk : k < x.c.cores.toNat) : (atK (So.upto (datK x) d T).evs (k : Int) : Int) = nextAt (datK x) d k T := by
  have h := (book_upto (M := datK x) (d := d) hz T hT).2.next k hk
  unfold nextAt
  rw [h]
  rfl
theorem at_all (x : Cs) (hz : chk x.c = 0) (T : Nat) (hT : T ≤ 10000) (d k : Nat) (hk : k < x.c.cores.toNat) : nextAt (datK x) d k T ≤ (progK x (d * x.c.cores.toNat + k)).length :=
  ((SoOk.upto (M := datK x) (d := d) hz T hT).nx k hk).2

theorem rounds_ge {k g : Int} (hg : 1 ≤ g) : k ≤ roundsZ k g * g := by
  unfold roundsZ
  have h1 := Int.mul_ediv_add_emod (k + g - 1) g
  have h2 := Int.emod_lt_of_pos (k + g - 1) (show 0 < g by omega)
  have h3 : (k + g - 1) / g * g = g * ((k + g - 1) / g) := Int.mul_comm _ _
  omega

/-- As many operations are done as Enough tells. -/
theorem enoughK (x : Cs) (hz : chk x.c = 0) (core d : Nat) (k : Int) (hc : core < x.c.cores.toNat) (hd : (d : Int) < x.c.domains) (hk0 : 0 ≤ k) (hk1 : k ≤ 64) (hin : (d : Int) ∈ rowOf x.c core) :
    enoughOk x.c core d k = true ∧ 0 ≤ enoughN x.c core d k ∧ enoughN x.c core d k ≤ k * ((rowOf x.c core).length : Int) * x.c.quantum ∧
    (enoughN x.c core d k ≤ 10000 → k ≤ nextAt (datK x) d core (enoughN x.c core d k).toNat ∨ nextAt (datK x) d core (enoughN x.c core d k).toNat = (progK x (d * x.c.cores.toNat + core)).length) := by
  have R := right_of hz
  have hcc := (nm_of hz).nc
  have e1 : (cnOf x.c).nc = x.c.cores.toNat := rfl
  have hok : enoughOk x.c core d k = true := by
    refine ok_yes ⟨by omega, by omega, by omega, hd, hk0, hk1⟩ ?_
    have hcnt : 0 < (x.c.turns.getD (core : Int).toNat []).count (d : Int) := by
      rw [Int.toNat_natCast]
      exact List.count_pos_iff.2 hin
    rw [beq_eq_false_iff_ne]
    omega
  obtain ⟨_, hn⟩ := enough_yes hz hok
  have hrow : x.c.turns.getD (core : Int).toNat [] = rowOf x.c core := by rw [Int.toNat_natCast]; rfl
  rw [hrow] at hn
  have w0 := R.w0
  have q1 := R.q1
  have f1 := R.f1
  have hg : gZ x.c = 1 + (x.c.quantum - x.c.flush - worstZ x.c - 1) / (worstZ x.c + 1) := rfl
  have hg1 : 1 ≤ gZ x.c := by
    rw [hg]
    have := Int.ediv_nonneg (show 0 ≤ x.c.quantum - x.c.flush - worstZ x.c - 1 by omega) (show 0 ≤ worstZ x.c + 1 by omega)
    omega
  obtain ⟨g, hgg⟩ := Int.eq_ofNat_of_zero_le (show 0 ≤ gZ x.c by omega)
  obtain ⟨Q, hQ⟩ := Int.eq_ofNat_of_zero_le (show 0 ≤ x.c.quantum by omega)
  have hr := rounds_bd hk0 hg1
  obtain ⟨r, hrr⟩ := Int.eq_ofNat_of_zero_le hr.1
  have hge := rounds_ge (k := k) hg1
  have hlq : 0 ≤ ((rowOf x.c core).length : Int) * x.c.quantum := Int.mul_nonneg (by omega) (by omega)
  refine ⟨hok, ?_, ?_, fun hT => ?_⟩
  · rw [hn, Int.mul_assoc]
    exact Int.mul_nonneg hr.1 hlq
  · rw [hn, Int.mul_assoc, Int.mul_assoc]
    exact Int.mul_le_mul_of_nonneg_right hr.2 hlq
  · have eN : enoughN x.c core d k = ((r * ((rowOf x.c core).length * Q) : Nat) : Int) := by
      rw [hn, hrr, hQ, Int.natCast_mul, Int.natCast_mul, Int.mul_assoc]
    rw [eN] at hT ⊢
    rw [Int.toNat_natCast]
    have hT' : r * ((rowOf x.c core).length * Q) ≤ 10000 := by omega
    have := rounds_done (M := datK x) (d := d) (k := core) (g := g) (Q := Q) (n := (rowOf x.c core).length) hz hd hc hQ.symm (by rw [← hgg]; exact hg) rfl hin r hT'
    have hle := at_all x hz _ hT' d core hc
    rcases this with h | h
    · left
      have e : ((r * g : Nat) : Int) = (r : Int) * g := Int.natCast_mul ..
      rw [e] at h
      rw [hrr, hgg] at hge
      omega
    · right
      have : ((progF (datK x) d core).length : Int) = (progK x (d * x.c.cores.toNat + core)).length := rfl
      omega
end Go.Proofs.YtcmcfafhllpojabGreat
