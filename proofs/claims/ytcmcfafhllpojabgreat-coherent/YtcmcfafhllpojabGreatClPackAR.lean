/-
  KohM, KohD
-/
import Derived.Test.YtcmcfafhllpojabGreatClPackAM
import Derived.Test.YtcmcfafhllpojabGreatClPackAG
import Derived.Test.YtcmcfafhllpojabGreatClPackAN
import Derived.Test.YtcmcfafhllpojabGreatClPackAQ
namespace Go.Proofs.YtcmcfafhllpojabGreat

/-- What a place of a near cache must be behind the cycle t. -/
def PlaceR (c : Cf) (core p nd : Nat) (t : Int) (P : Cp) (len : Nat → Nat) (ln : Nat → Nat → Int) (mk : Nat → Nat → Bool) : Prop :=
  P = cpE ∨ ∃ d y : Nat, d < nd ∧ P.dom = d ∧ P.line = y ∧ (y : Int) % c.near = p ∧ (P.st = 1 ∨ P.st = 2 ∨ P.st = 3) ∧ 0 ≤ t ∧ t % c.quantum < c.quantum - c.flush ∧ turnZ c core t = d ∧ (y : Int) * c.line < c.priv + c.shared ∧ (∃ i, i < len d ∧ ln d i = y) ∧ (P.st ≠ 1 → (y : Int) * c.line < c.priv) ∧ (P.st = 3 → ∀ i, i < len d → ln d i = y → mk d i = true)
/-- Of copies of one line: if one is Alone or Changed, there is no other. -/
def SingleR (P Q : Cp) : Prop :=
  P.st = 0 ∨ (P.st ≠ 0 ∧ Q.st = 0) ∨ (P.st ≠ 0 ∧ Q.st ≠ 0 ∧ P.dom ≠ Q.dom) ∨ (P.st ≠ 0 ∧ Q.st ≠ 0 ∧ P.dom = Q.dom ∧ P.line ≠ Q.line) ∨ (P.st = 1 ∧ Q.st = 1 ∧ P.dom = Q.dom ∧ P.line = Q.line)
/-- What a block of the far cache must be. -/
def BlockR (c : Cf) (wn i : Nat) (ln : Nat → Int) (mk : Nat → Bool) : Prop :=
  (ln i = -1 ∧ mk i = false) ∨ ∃ y : Nat, ln i = y ∧ (y : Int) % c.sets = ((i / wn : Nat) : Int) ∧ (y : Int) * c.line < c.priv + c.shared ∧ (mk i = true → (y : Int) * c.line < c.priv) ∧ ∀ j, j < i → ln j ≠ y
/-- What block tells of a line. -/
def Says (n : Nat) (ln : Nat → Int) (mk : Nat → Bool) (y : Nat) (b1 b2 : Bool) : Prop :=
  (b1 = true ∧ ∃ i, i < n ∧ ln i = y ∧ mk i = b2) ∨ (b1 = false ∧ b2 = false ∧ ∀ i, i < n → ln i ≠ y)

/-- The far cache as it is told. -/
def lnK (x : Cs) (T d i : Nat) : Int := ((Mh.runs (cnOf x.c) T (machK x)).blk d (i / (cnOf x.c).wn d) (i % (cnOf x.c).wn d)).line
def mkK (x : Cs) (T d i : Nat) : Bool := ((Mh.runs (cnOf x.c) T (machK x)).blk d (i / (cnOf x.c).wn d) (i % (cnOf x.c).wn d)).mkd
def lenK (x : Cs) (d : Nat) : Nat := (cnOf x.c).ns * (cnOf x.c).wn d

theorem at_place {wn s j : Nat} (hj : j < wn) : (s * wn + j) / wn = s ∧ (s * wn + j) % wn = j := by
  have h0 : 0 < wn := by omega
  rw [Nat.mul_comm]
  exact ⟨by rw [Nat.mul_add_div h0, Nat.div_eq_of_lt hj, Nat.add_zero], by rw [Nat.mul_add_mod, Nat.mod_eq_of_lt hj]⟩
theorem place_lt {ns wn s j : Nat} (hs : s < ns) (hj : j < wn) : s * wn + j < ns * wn := by
  have : (s + 1) * wn ≤ ns * wn := Nat.mul_le_mul_right _ hs
  rw [Nat.add_mul, Nat.one_mul] at this
  omega

/-- A line lies there as it is told. -/
theorem lies_toldK (x : Cs) (hz : chk x.c = 0) (d : Nat) (hd : (d : Int) < x.c.domains) (T : Nat) (hT : T ≤ 10000) (y : Nat) : 0 ≤ whereF y (So.upto (datK x) d T).log ↔ ∃ i, i < lenK x d ∧ lnK x T d i = y := by
  have hN := nm_of hz
  rw [far_inK x hz d hd T hT y]
  have hm : y % x.c.sets.toNat < (cnOf x.c).ns := Nat.mod_lt _ hN.s0
  constructor
  · rintro ⟨j, hj, e⟩
    have hj' : j < (cnOf x.c).wn d := hj
    refine ⟨y % x.c.sets.toNat * (cnOf x.c).wn d + j, place_lt hm hj', ?_⟩
    unfold lnK
    rw [(at_place hj').1, (at_place hj').2]
    exact e
  · rintro ⟨i, hi, e⟩
    have hb := div_bd hi
    unfold lnK at e
    have L := (linksK x hz T hT).log d (by have := hN.nd; omega)
    have hset := L.far.set _ _ hb.1 hb.2 (by rw [e]; omega)
    rw [e] at hset
    have e2 : y % x.c.sets.toNat = i / (cnOf x.c).wn d := by
      have : ((y % (cnOf x.c).ns : Nat) : Int) = ((i / (cnOf x.c).wn d : Nat) : Int) := by rw [Int.natCast_emod]; exact hset
      have e4 : (cnOf x.c).ns = x.c.sets.toNat := rfl
      rw [e4] at this
      omega
    exact ⟨i % (cnOf x.c).wn d, hb.2, by rw [e2]; exact e⟩
theorem marked_toldK (x : Cs) (hz : chk x.c = 0) (d : Nat) (hd : (d : Int) < x.c.domains) (T : Nat) (hT : T ≤ 10000) (y i : Nat) (hi : i < lenK x d) (h : lnK x T d i = y) : mkK x T d i = markedF y (So.upto (datK x) d T).log := by
  have hb := div_bd hi
  unfold lnK at h
  unfold mkK
  rcases farK x hz d hd T hT _ _ hb.1 hb.2 with ⟨h1, _⟩ | ⟨y', h1, _, _, h2, _⟩
  · rw [h] at h1; omega
  · rw [h] at h1
    have : y = y' := by omega
    subst this
    exact h2

theorem place_rightK (x : Cs) (hz : chk x.c = 0) (T : Nat) (hT : T ≤ 10000) (k p : Nat) (hk : k < x.c.cores.toNat) : PlaceR x.c k p x.c.domains.toNat ((T : Int) - 1) ((Mh.runs (cnOf x.c) T (machK x)).nr k p) (lenK x) (lnK x T) (mkK x T) := by
  have hN := nm_of hz
  rcases placeK x hz T hT k p hk with h | ⟨d, y, hd, h1, h2, h3, h4, _, h5, h6, h7, h8, h9, h10, h11⟩
  · exact Or.inl h
  · refine Or.inr ⟨d, y, by omega, h1, h2, ?_, h4, by omega, h6, h7, h8, (lies_toldK x hz d hd T hT y).1 h9, h10, fun q i hi e => ?_⟩
    · have e1 := hN.nn
      have e2 : (cnOf x.c).nn = x.c.near.toNat := rfl
      rw [← e1, e2, ← Int.natCast_emod, h3]
    · rw [marked_toldK x hz d hd T hT y i hi e]
      exact h11 q

theorem single_rightK (x : Cs) (hz : chk x.c = 0) (T : Nat) (hT : T ≤ 10000) (a b p : Nat) (ha : a < x.c.cores.toNat) (hb : b < x.c.cores.toNat) (hab : a ≠ b) : SingleR ((Mh.runs (cnOf x.c) T (machK x)).nr a p) ((Mh.runs (cnOf x.c) T (machK x)).nr b p) := by
  unfold SingleR
  rcases placeK x hz T hT a p ha with h | ⟨d, y, hd, h1, h2, _, h4, hs, _⟩
  · left; rw [h]; rfl
  · rcases placeK x hz T hT b p hb with h' | ⟨d', y', hd', h1', h2', _, h4', hs', _⟩
    · right; left; exact ⟨by omega, by rw [h']; rfl⟩
    · right; right
      by_cases q : d = d'
      · subst q
        right
        by_cases r : y = y'
        · subst r
          right
          have C := cohK x hz d hd T hT
          have s1 := C.sole a b y ha hb (fun e => hab e.symm)
          have s2 := C.sole b a y hb ha hab
          rw [hs, hs'] at s1
          rw [hs, hs'] at s2
          refine ⟨?_, ?_, by rw [h1, h1'], by rw [h2, h2']⟩
          · rcases h4 with e | e | e
            · exact e
            · have := s1 (Or.inl e); omega
            · have := s1 (Or.inr e); omega
          · rcases h4' with e | e | e
            · exact e
            · have := s2 (Or.inl e); omega
            · have := s2 (Or.inr e); omega
        · left
          exact ⟨by omega, by omega, by rw [h1, h1'], by rw [h2, h2']; omega⟩
      · left
        exact ⟨by omega, by omega, by rw [h1, h1']; omega⟩

theorem block_rightK (x : Cs) (hz : chk x.c = 0) (d : Nat) (hd : (d : Int) < x.c.domains) (T : Nat) (hT : T ≤ 10000) (i : Nat) (hi : i < lenK x d) : BlockR x.c ((cnOf x.c).wn d) i (lnK x T d) (mkK x T d) := by
  have hN := nm_of hz
  have hb := div_bd hi
  rcases farK x hz d hd T hT _ _ hb.1 hb.2 with ⟨h1, h2⟩ | ⟨y, h1, h2, h3, h4, h5⟩
  · exact Or.inl ⟨h1, h2⟩
  · refine Or.inr ⟨y, h1, ?_, h3, fun q => h5 (by rw [← h4]; exact q), fun j hj e => ?_⟩
    · have e1 := hN.ns
      have e2 : (cnOf x.c).ns = x.c.sets.toNat := rfl
      rw [← e1, e2, ← Int.natCast_emod, h2]
    · have hj' : j < lenK x d := by omega
      have hbj := div_bd hj'
      unfold lnK at e
      obtain ⟨q1, q2⟩ := far_oneK x hz d hd T hT _ _ _ _ hb.1 hbj.1 hb.2 hbj.2 (by rw [h1]; omega) (by rw [h1, e])
      have d1 := Nat.div_add_mod i ((cnOf x.c).wn d)
      have d2 := Nat.div_add_mod j ((cnOf x.c).wn d)
      rw [q1, q2] at d1
      omega

theorem says_rightK (x : Cs) (hz : chk x.c = 0) (d : Nat) (hd : (d : Int) < x.c.domains) (T : Nat) (hT : T ≤ 10000) (a : Nat) (ha : a < x.c.priv.toNat + x.c.shared.toNat) (b1 b2 : Bool) (h : Says (lenK x d) (lnK x T d) (mkK x T d) (a / x.c.line.toNat) b1 b2) :
    (b1 = true ∧ b2 = true) ∨ wordM x.c.priv.toNat x.c.shared.toNat ((Mh.runs (cnOf x.c) T (machK x)).own d) (Mh.runs (cnOf x.c) T (machK x)).sh a = replay (datK x) d (So.upto (datK x) d T).evs a := by
  rcases h with ⟨h1, i, hi, he, hm⟩ | ⟨_, _, hn⟩
  · cases b2 with
    | true => exact Or.inl ⟨h1, rfl⟩
    | false => exact Or.inr (memK x hz d hd T hT a ha (Or.inr (by rw [← marked_toldK x hz d hd T hT _ i hi he]; exact hm)))
  · refine Or.inr (memK x hz d hd T hT a ha (Or.inl ?_))
    refine Classical.byContradiction fun q => ?_
    obtain ⟨i, hi, he⟩ := (lies_toldK x hz d hd T hT (a / x.c.line.toNat)).1 (by omega)
    exact hn i hi he
end Go.Proofs.YtcmcfafhllpojabGreat

namespace Go.Proofs.YtcmcfafhllpojabGreat
open Go.RowKit

theorem line_lt {y l a : Int} (h0 : 0 < l) (h : y * l < a) (hd : a % l = 0) : y < a / l := by
  have e := Int.mul_ediv_add_emod a l
  rw [hd, Int.add_zero] at e
  rw [← e, Int.mul_comm y l] at h
  exact Int.lt_of_mul_lt_mul_left h (by omega)

theorem cp_cells {w : World} {g : Nat} {a b c : Int} (h : Row w g [.int .i64 a, .int .i64 b, .int .i64 c] 90) :
    w.cell? ⟨g, 0, none⟩ = some (.int .i64 a) ∧ w.cell? ⟨g, 1, none⟩ = some (.int .i64 b) ∧ w.cell? ⟨g, 2, none⟩ = some (.int .i64 c) := ⟨h.cell 0, h.cell 1, h.cell 2⟩

set_option maxRecDepth 100000 in
set_option maxHeartbeats 6400000 in
theorem kcopyRight_any (x : Cs) (l : Cl) (hz : chk x.c = 0) (gS nc nn nd : Nat) (nr : Nat → Nat → Cp) (len : Nat → Nat) (ln : Nat → Nat → Int) (mk : Nat → Nat → Bool) (core p : Nat) (t : Int) (w : World) (hC : CfgAt w x.c l.s) (h : SightM w gS nc nn nd nr len ln mk) (hk : core < nc) (hkc : (core : Int) < x.c.cores) (hp : p < nn) (hl : ∀ d, d < nd → len d ≤ 192) (tm : t ≤ 1000000)
    (hs : PlaceR x.c core p nd t (nr core p) len ln mk) :
    Calls Tryz.prog 58 #[csV x l, .pointer (some ⟨gS, 0, none⟩), .int .i64 core, .int .i64 p, .int .i64 t] w fun e w' => e = .returned (.bool true) ∧ Below w.heap.size w w' := by
  have HS : Hid _ := h
  obtain ⟨gn, ca, gf, cb, h1, h2, _, n1, n2, _, _⟩ := h.box
  obtain ⟨ga, e1, e2⟩ := h2 core hk
  have c0 : w.cell? ⟨gS, 0, none⟩ = some (.slice (some ⟨gn, 0, none⟩) nc ca) := h1.cell 0
  obtain ⟨a0, a1, a2⟩ := cps_row e2 hp
  have l1 := h1.lt
  have l2 := cell_lt e1
  have l3 := e2.lt
  unfold maxLen at n2
  generalize nr core p = P at *
  obtain ⟨p0, p1, p2⟩ := P
  simp only at a0 a1 a2
  have hb0 : Below w.heap.size w ((w.alloc (.cells (csA x l) 33)).alloc (.cells #[.int .i64 p0, .int .i64 p1, .int .i64 p2] 90)) := ((Below.refl _ _).alloc (Nat.le_refl _) _).alloc (by simp) _
  have RC : Row ((w.alloc (.cells (csA x l) 33)).alloc (.cells #[.int .i64 p0, .int .i64 p1, .int .i64 p2] 90)) w.heap.size (csL x l) 33 := Row.alloc (heap_alloc_new w _) _
  have RP : Row ((w.alloc (.cells (csA x l) 33)).alloc (.cells #[.int .i64 p0, .int .i64 p1, .int .i64 p2] 90)) (w.heap.size + 1) [.int .i64 p0, .int .i64 p1, .int .i64 p2] 90 := by
    have := heap_alloc_new (w.alloc (.cells (csA x l) 33)) (.cells #[.int .i64 p0, .int .i64 p1, .int .i64 p2] 90)
    rw [World.size_alloc] at this
    exact this
  have hsz : ((w.alloc (.cells (csA x l) 33)).alloc (.cells #[.int .i64 p0, .int .i64 p1, .int .i64 p2] 90)).heap.size = w.heap.size + 2 := by simp
  have hRe := krests_any p0 p1 p2 ((w.alloc (.cells (csA x l) 33)).alloc (.cells #[.int .i64 p0, .int .i64 p1, .int .i64 p2] 90))
  obtain ⟨W, hW⟩ : ∃ W, (w.alloc (.cells (csA x l) 33)).alloc (.cells #[.int .i64 p0, .int .i64 p1, .int .i64 p2] 90) = W := ⟨_, rfl⟩
  have HW : Hid _ := hW
  rw [hW] at hb0 RC RP hsz hRe
  have HB0 : Hid _ := hb0
  have HRC : Hid (Row W w.heap.size (csL x l) 33) := RC
  have HRP : Hid (Row W (w.heap.size + 1) [.int .i64 p0, .int .i64 p1, .int .i64 p2] 90) := RP
  have HSZ : Hid _ := hsz
  have HC : Hid _ := hC
  have HZ : Hid _ := hz
  have HL : Hid _ := hl
  clear h h1 h2 e2 hW hb0 RC RP hsz hC hl hz
  rcases hs with hP | ⟨d, y, hd, hP0, hP1, hyp, hst, ht0, htf, htn, hyl, hin, hnp, hch⟩
  · have q0 : p0 = -1 := congrArg Cp.dom hP
    have q1 : p1 = -1 := congrArg Cp.line hP
    have q2 : p2 = 0 := congrArg Cp.st hP
    rw [q0, q1, q2] at hRe
    subst q0
    subst q1
    subst q2
    clear hP
    go_enter Tryz.func58, Tryz.ntmps58
    go_wp2_with fail
    rw [HW.out]
    refine hRe.mono ?_; rintro e w1 ⟨rfl, hb1⟩
    have HB1 : Hid (Below w.heap.size w w1) := below_step HB0.out hb1 rfl
    clear hRe hb1 c0 a0 a1 a2 e1
    go_wp2
    go_ret
    exact ⟨rfl, HB1.out⟩
  · simp only at hP0 hP1 hst hnp hch
    subst hP0
    subst hP1
    have R := right_of HZ.out
    have sb := shape_bounds (chk_zero HZ.out).1
    have hN := nm_of HZ.out
    have hl0 : 0 < x.c.line := by omega
    have hds : (x.c.priv + x.c.shared) % x.c.line = 0 := by
      obtain ⟨q, hq⟩ := hN.ds
      have e1 := hN.pv
      have e2 := hN.sn
      have e3 := hN.ln
      rw [← e1, ← e2, ← e3, ← Int.natCast_add, hq, Int.natCast_mul]
      exact Int.mul_emod_left _ _
    have hyn : (y : Int) < (x.c.priv + x.c.shared) / x.c.line := line_lt hl0 hyl hds
    have hdv : (x.c.priv + x.c.shared) / x.c.line ≤ x.c.priv + x.c.shared := Int.ediv_le_self _ (by omega)
    have hy96 : y ≤ 96 := by omega
    have hrn : (decide ((d : Int) = -1) && decide ((y : Int) = -1) && decide (p2 = 0)) = false := by
      rw [decide_eq_false (show ¬ (d : Int) = -1 by omega)]; rfl
    rw [hrn] at hRe
    have y1 : 0 < x.c.quantum := by have := R.q1; have := R.w0; have := R.f1; omega
    have m1 : 0 ≤ t % x.c.quantum := Int.emod_nonneg _ (by omega)
    have m2 : t % x.c.quantum < x.c.quantum := Int.emod_lt_of_pos _ y1
    have qq1 := R.q2
    have qf1 := R.f1
    have qf2 := R.f2
    have wm : IntKind.i64.wrap (t % x.c.quantum) = t % x.c.quantum := by rw [IntKind.wrap_i64]; omega
    have wf : IntKind.i64.wrap (x.c.quantum - x.c.flush) = x.c.quantum - x.c.flush := by rw [IntKind.wrap_i64]; omega
    have hn0 : 0 < x.c.near := by omega
    have hnz : ¬ x.c.near = 0 := by omega
    have wn : IntKind.i64.wrap ((y : Int) % x.c.near) = (p : Int) := by rw [hyp, IntKind.wrap_i64]; have : (p : Int) < x.c.near := by rw [← hyp]; exact Int.emod_lt_of_pos _ hn0
                                                                        omega
    have HIN : Hid _ := hin
    have HNP : Hid _ := hnp
    have HCH : Hid _ := hch
    have HYP : Hid _ := hyp
    have HTN : Hid _ := htn
    obtain ⟨LN, hLN⟩ : ∃ LN, (x.c.priv + x.c.shared) / x.c.line = LN := ⟨_, rfl⟩
    have HLN : Hid _ := hLN
    rw [hLN] at hyn hdv
    clear R sb hN hrn hin hnp hch htn hyl hds hLN
    go_enter Tryz.func58, Tryz.ntmps58
    go_wp2_with fail
    rw [HW.out]
    refine hRe.mono ?_; rintro e w1 ⟨rfl, hb1⟩
    have B1 : Below w.heap.size w w1 := below_step HB0.out hb1 rfl
    have R1 : Row w1 w.heap.size (csL x l) 33 := Row.below HRC.out hb1 (by have := HSZ.out; omega)
    have P1 : Row w1 (w.heap.size + 1) [.int .i64 d, .int .i64 y, .int .i64 p2] 90 := Row.below HRP.out hb1 (by have := HSZ.out; omega)
    have hBn : ∀ n, Below w.heap.size w (w1.drewN n) := fun n => B1.trans ⟨rfl, rfl, rfl, Nat.le_refl _, fun _ _ => rfl⟩
    have HTU : Hid (∀ n, Calls Tryz.prog 115 #[cfgV x.c l.s, .int .i64 core, .int .i64 t] (w1.drewN n) fun e w' => e = .returned (.int .i64 (d : Int)) ∧ Below (w1.drewN n).heap.size (w1.drewN n) w') := fun n => by
      have := kturn_any x.c l.s core t (w1.drewN n) (HC.out.below (hBn n) (Nat.le_refl _)) HZ.out hkc ht0 tm
      rw [HTN.out] at this
      exact this
    have HBN : Hid _ := hBn
    have lr1 := R1.lt
    obtain ⟨x0, x1, x2, x3, x4, x5, x6, x7, x8, x9, x10, x11, x12⟩ := cs_cells R1
    have HB1 : Hid _ := B1
    have HR1 : Hid (Row w1 w.heap.size (csL x l) 33) := R1
    have HP1 : Hid (Row w1 (w.heap.size + 1) [.int .i64 d, .int .i64 y, .int .i64 p2] 90) := P1
    clear hRe hb1 c0 a0 a1 a2 e1 B1 R1 P1 hBn
    go_wp2_with fail
    have yq0 : ¬ x.c.quantum = 0 := by omega
    have ytn : ¬ t < 0 := by omega
    go_quiet (fail)
    go_wp2_with fail
    refine (HTU.out _).mono ?_; rintro e w2 ⟨rfl, hb2⟩
    have B2 : Below w.heap.size w w2 := below_step (HBN.out _) hb2 rfl
    have R2 : Row w2 w.heap.size (csL x l) 33 := Row.below (show Row (w1.drewN _) w.heap.size (csL x l) 33 from HR1.out) hb2 lr1
    have P2 : Row w2 (w.heap.size + 1) [.int .i64 d, .int .i64 y, .int .i64 p2] 90 := Row.below (show Row (w1.drewN _) (w.heap.size + 1) [.int .i64 d, .int .i64 y, .int .i64 p2] 90 from HP1.out) hb2 HP1.out.lt
    have hLi := klines_any x l HZ.out w2
    rw [HLN.out] at hLi
    have hrow := R2
    have HB2 : Hid _ := B2
    have HR2 : Hid (Row w2 w.heap.size (csL x l) 33) := R2
    have HP2 : Hid (Row w2 (w.heap.size + 1) [.int .i64 d, .int .i64 y, .int .i64 p2] 90) := P2
    clear hb2 x0 x1 x2 x3 x4 x5 x6 x7 x8 x9 x10 x11 x12 B2 R2 P2
    go_wp2_with (refine wpList_load_row (by rfl) 33 (.tmp 5) (by rfl) w.heap.size (by rfl) 33 (csL x l).toArray (0, 0) _ hrow Tryz.underlying33 (by rfl) (size_case x l) ?_)
    refine hLi.mono ?_; rintro e w3 ⟨rfl, hb3⟩
    have B3 : Below w.heap.size w w3 := below_step HB2.out hb3 rfl
    have R3 : Row w3 w.heap.size (csL x l) 33 := Row.below HR2.out hb3 HR2.out.lt
    have P3 : Row w3 (w.heap.size + 1) [.int .i64 d, .int .i64 y, .int .i64 p2] 90 := Row.below HP2.out hb3 HP2.out.lt
    have hBl := kblock_any gS nc nn nd nr len ln mk d y w3 (HS.out.below B3 (Nat.le_refl _)) hd (HL.out d hd)
    obtain ⟨x0, x1, x2, x3, x4, x5, x6, x7, x8, x9, x10, x11, x12⟩ := cs_cells R3
    obtain ⟨v0, v1, v2⟩ := cp_cells P3
    have lr3 := R3.lt
    have lp3 := P3.lt
    have HB3 : Hid _ := B3
    have HR3 : Hid (Row w3 w.heap.size (csL x l) 33) := R3
    have HP3 : Hid (Row w3 (w.heap.size + 1) [.int .i64 d, .int .i64 y, .int .i64 p2] 90) := P3
    clear hLi hb3 hrow B3 R3 P3
    rcases hst with hst | hst | hst
    all_goals
      subst hst
      go_wp2_with fail
      try go_quiet (fail)
      try go_wp2_with fail
    · refine hBl.mono ?_; rintro e w4 ⟨b1, b2, rfl, hsay, hb4⟩
      have hb1 : b1 = true := by
        rcases hsay with ⟨q, _⟩ | ⟨_, _, q⟩
        · exact q
        · obtain ⟨i, hi, he⟩ := HIN.out
          exact absurd he (q i hi)
      have HB4 : Hid (Below w.heap.size w w4) := below_step HB3.out hb4 rfl
      have R4 : Row w4 w.heap.size (csL x l) 33 := Row.below HR3.out hb4 lr3
      have P4 : Row w4 (w.heap.size + 1) [.int .i64 d, .int .i64 y, .int .i64 1] 90 := Row.below HP3.out hb4 lp3
      have hCm := kcommon_any x l HZ.out y (by omega) w4
      have hrow4 := R4
      obtain ⟨u0, u1, u2⟩ := cp_cells P4
      have lp4 := P4.lt
      have HP4 : Hid (Row w4 (w.heap.size + 1) [.int .i64 d, .int .i64 y, .int .i64 1] 90) := P4
      subst hb1
      clear hBl hsay hb4 x0 x1 x2 x3 x4 x5 x6 x7 x8 x9 x10 x11 x12 v0 v1 v2 R4 P4
      go_wp2_with (refine wpList_load_row (by rfl) 33 (.tmp 5) (by rfl) w.heap.size (by rfl) 33 (csL x l).toArray (0, 0) _ hrow4 Tryz.underlying33 (by rfl) (size_case x l) ?_)
      refine hCm.mono ?_; rintro e w5 ⟨rfl, hb5⟩
      have HB5 : Hid (Below w.heap.size w w5) := below_step HB4.out hb5 rfl
      have P5 : Row w5 (w.heap.size + 1) [.int .i64 d, .int .i64 y, .int .i64 1] 90 := Row.below HP4.out hb5 lp4
      have u2' : w5.cell? ⟨w.heap.size + 1, 2, none⟩ = some (.int .i64 1) := P5.cell 2
      have lp5 := P5.lt
      clear hCm hb5 hrow4 u0 u1 u2 P5
      generalize decide (x.c.priv ≤ (y : Int) * x.c.line) = B
      go_wp2_with fail
      try go_quiet (fail)
      try go_wp2
      go_ret
      exact ⟨ret_bool (by first | rfl | simp), by first | exact HB5.out | exact HB5.out.trans ⟨rfl, rfl, rfl, Nat.le_refl _, fun _ _ => rfl⟩⟩
    · refine hBl.mono ?_; rintro e w4 ⟨b1, b2, rfl, hsay, hb4⟩
      have hb1 : b1 = true := by
        rcases hsay with ⟨q, _⟩ | ⟨_, _, q⟩
        · exact q
        · obtain ⟨i, hi, he⟩ := HIN.out
          exact absurd he (q i hi)
      have HB4 : Hid (Below w.heap.size w w4) := below_step HB3.out hb4 rfl
      have R4 : Row w4 w.heap.size (csL x l) 33 := Row.below HR3.out hb4 lr3
      have P4 : Row w4 (w.heap.size + 1) [.int .i64 d, .int .i64 y, .int .i64 2] 90 := Row.below HP3.out hb4 lp3
      have hCm := kcommon_any x l HZ.out y (by omega) w4
      rw [decide_eq_false (show ¬ x.c.priv ≤ (y : Int) * x.c.line by have := HNP.out (by decide); omega)] at hCm
      have hrow4 := R4
      obtain ⟨u0, u1, u2⟩ := cp_cells P4
      have lp4 := P4.lt
      have HP4 : Hid (Row w4 (w.heap.size + 1) [.int .i64 d, .int .i64 y, .int .i64 2] 90) := P4
      subst hb1
      clear hBl hsay hb4 x0 x1 x2 x3 x4 x5 x6 x7 x8 x9 x10 x11 x12 v0 v1 v2 R4 P4
      go_wp2_with (refine wpList_load_row (by rfl) 33 (.tmp 5) (by rfl) w.heap.size (by rfl) 33 (csL x l).toArray (0, 0) _ hrow4 Tryz.underlying33 (by rfl) (size_case x l) ?_)
      refine hCm.mono ?_; rintro e w5 ⟨rfl, hb5⟩
      have HB5 : Hid (Below w.heap.size w w5) := below_step HB4.out hb5 rfl
      have P5 : Row w5 (w.heap.size + 1) [.int .i64 d, .int .i64 y, .int .i64 2] 90 := Row.below HP4.out hb5 lp4
      have u2' : w5.cell? ⟨w.heap.size + 1, 2, none⟩ = some (.int .i64 2) := P5.cell 2
      have lp5 := P5.lt
      clear hCm hb5 hrow4 u0 u1 u2 P5
      go_wp2_with fail
      try go_quiet (fail)
      try go_wp2
      go_ret
      exact ⟨ret_bool (by first | rfl | simp), by first | exact HB5.out | exact HB5.out.trans ⟨rfl, rfl, rfl, Nat.le_refl _, fun _ _ => rfl⟩⟩
    · refine hBl.mono ?_; rintro e w4 ⟨b1, b2, rfl, hsay, hb4⟩
      have hb1 : b1 = true := by
        rcases hsay with ⟨q, _⟩ | ⟨_, _, q⟩
        · exact q
        · obtain ⟨i, hi, he⟩ := HIN.out
          exact absurd he (q i hi)
      have hb2 : b2 = true := by
        rcases hsay with ⟨_, i, hi, he, hm⟩ | ⟨_, _, q⟩
        · rw [← hm]; exact HCH.out (by first | rfl | trivial) i hi he
        · obtain ⟨i, hi, he⟩ := HIN.out
          exact absurd he (q i hi)
      subst hb2
      have HB4 : Hid (Below w.heap.size w w4) := below_step HB3.out hb4 rfl
      have R4 : Row w4 w.heap.size (csL x l) 33 := Row.below HR3.out hb4 lr3
      have P4 : Row w4 (w.heap.size + 1) [.int .i64 d, .int .i64 y, .int .i64 3] 90 := Row.below HP3.out hb4 lp3
      have hCm := kcommon_any x l HZ.out y (by omega) w4
      rw [decide_eq_false (show ¬ x.c.priv ≤ (y : Int) * x.c.line by have := HNP.out (by decide); omega)] at hCm
      have hrow4 := R4
      obtain ⟨u0, u1, u2⟩ := cp_cells P4
      have lp4 := P4.lt
      have HP4 : Hid (Row w4 (w.heap.size + 1) [.int .i64 d, .int .i64 y, .int .i64 3] 90) := P4
      subst hb1
      clear hBl hsay hb4 x0 x1 x2 x3 x4 x5 x6 x7 x8 x9 x10 x11 x12 v0 v1 v2 R4 P4
      go_wp2_with (refine wpList_load_row (by rfl) 33 (.tmp 5) (by rfl) w.heap.size (by rfl) 33 (csL x l).toArray (0, 0) _ hrow4 Tryz.underlying33 (by rfl) (size_case x l) ?_)
      refine hCm.mono ?_; rintro e w5 ⟨rfl, hb5⟩
      have HB5 : Hid (Below w.heap.size w w5) := below_step HB4.out hb5 rfl
      have P5 : Row w5 (w.heap.size + 1) [.int .i64 d, .int .i64 y, .int .i64 3] 90 := Row.below HP4.out hb5 lp4
      have u2' : w5.cell? ⟨w.heap.size + 1, 2, none⟩ = some (.int .i64 3) := P5.cell 2
      have lp5 := P5.lt
      clear hCm hb5 hrow4 u0 u1 u2 P5
      go_wp2_with fail
      try go_quiet (fail)
      try go_wp2
      go_ret
      exact ⟨ret_bool (by first | rfl | simp), by first | exact HB5.out | exact HB5.out.trans ⟨rfl, rfl, rfl, Nat.le_refl _, fun _ _ => rfl⟩⟩
end Go.Proofs.YtcmcfafhllpojabGreat
