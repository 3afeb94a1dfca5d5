/-
  KaseX, KaseZ
-/
import Derived.Test.YtcmcfafhllpojaaGreatClFaultK
import Derived.Test.YtcmcfafhllpojaaGreatClPackAH
import Derived.Test.YtcmcfafhllpojaaGreatClKaseE
import Derived.Deep.RegionLaw
namespace Go.Proofs.YtcmcfafhllpojaaGreat
open Go.RowKit

/-- The line of an event of a trace. -/
def lineK (x : Cs) (d : Nat) (e : Ev) : Int := if e.fault = 0 then lineF (datK x) d e else -1

set_option maxRecDepth 100000 in
set_option maxHeartbeats 6400000 in
theorem klineOf_any (x : Cs) (l : Cl) (hz : chk x.c = 0) (d nc : Nat) (hd : (d : Int) < x.c.domains) (hnc : x.c.cores.toNat = nc) (evs : List Ev) (e : Ev) (hg : GoodEv (datK x) d evs e) (w0 w : World) (hCA : CaseAt w0 x l) (hb0 : Below w0.heap.size w0 w) :
    Calls Tryz.prog 74 #[csV x l, .agg (eventL e).toArray, .int .i64 d] w fun r w' => r = .returned (.int .i64 (lineK x d e)) ∧ Below w.heap.size w w' := by
  have R := right_of hz
  have sb := shape_bounds (chk_zero hz).1
  obtain ⟨k, hk1, hk2, hidx, hlt, hf1, hf2⟩ := hg
  have hk2' : k < nc := by have : (datK x).c.cores.toNat = nc := hnc; omega
  have hop : opOf (datK x) d e = (progK x (d * nc + k)).getD (seenF k evs) opZ := by
    unfold opOf
    rw [hk1, hidx, Int.toNat_natCast, Int.toNat_natCast]
    show (progK x (d * x.c.cores.toNat + k)).getD _ _ = _
    rw [hnc]
  have hlt' : seenF k evs < (progK x (d * nc + k)).length := by
    have : (progF (datK x) d k) = progK x (d * x.c.cores.toNat + k) := rfl
    rw [this, hnc] at hlt
    exact hlt
  obtain ⟨i, hi⟩ : ∃ i, seenF k evs = i := ⟨_, rfl⟩
  obtain ⟨os, hos⟩ : ∃ os, progK x (d * nc + k) = os := ⟨_, rfl⟩
  have hos64 := (progK_kin x (d * nc + k)).1
  rw [hi] at hidx hlt' hop
  rw [hos] at hlt' hop hos64
  have HLK : Hid (lineK x d e = if e.fault = 0 then (opOf (datK x) d e).2.1 / x.c.line else -1) := rfl
  obtain ⟨ec, ei, ev, ef, eis, edn⟩ := e
  simp only at hk1 hidx hf1 hf2
  subst hk1
  subst hidx
  obtain ⟨o, ho⟩ : ∃ o, os.getD i opZ = o := ⟨_, rfl⟩
  rw [ho] at hop
  rw [hop] at hf1 hf2 HLK
  have HOP : Hid _ := ho
  have HOS : Hid _ := hos
  have hb1 : Below w.heap.size w ((w.alloc (.cells (csA x l) 33)).alloc (.cells #[.int .i64 k, .int .i64 i, .int .i64 ev, .int .i64 ef, .int .i64 eis, .int .i64 edn] 88)) := ((Below.refl _ _).alloc (Nat.le_refl _) _).alloc (by simp) _
  have RC : Row ((w.alloc (.cells (csA x l) 33)).alloc (.cells #[.int .i64 k, .int .i64 i, .int .i64 ev, .int .i64 ef, .int .i64 eis, .int .i64 edn] 88)) w.heap.size (csL x l) 33 := Row.alloc (heap_alloc_new w _) _
  have RE : Row ((w.alloc (.cells (csA x l) 33)).alloc (.cells #[.int .i64 k, .int .i64 i, .int .i64 ev, .int .i64 ef, .int .i64 eis, .int .i64 edn] 88)) (w.heap.size + 1) [.int .i64 k, .int .i64 i, .int .i64 ev, .int .i64 ef, .int .i64 eis, .int .i64 edn] 88 := by
    have := heap_alloc_new (w.alloc (.cells (csA x l) 33)) (.cells #[.int .i64 k, .int .i64 i, .int .i64 ev, .int .i64 ef, .int .i64 eis, .int .i64 edn] 88)
    rw [World.size_alloc] at this
    exact this
  have HNC : Hid ((nc : Int) = x.c.cores) := by unfold Hid; have := R.c1; omega
  have HZ : Hid _ := hz
  have hCA0 := hCA
  have HB00 : Hid _ := below_step hb0 hb1 rfl
  have hc3 : nc ≤ 3 := by have := R.c2; omega
  have hd4 : d ≤ 4 := by have := R.d2; omega
  have hl1 : 0 < x.c.line := by have := (nm_of hz).ln; have := (nm_of hz).l0; omega
  have hPr := kprog_at x l d k nc w0 _ hCA0 HB00.out HNC.out hc3 hd4 (by omega)
  rw [HOS.out] at hPr
  have hrow := RC
  have HCA : Hid _ := hCA
  have HBW : Hid _ := hb1
  have HRE : Hid (Row ((w.alloc (.cells (csA x l) 33)).alloc (.cells #[.int .i64 k, .int .i64 i, .int .i64 ev, .int .i64 ef, .int .i64 eis, .int .i64 edn] 88)) (w.heap.size + 1) [.int .i64 k, .int .i64 i, .int .i64 ev, .int .i64 ef, .int .i64 eis, .int .i64 edn] 88) := RE
  have v0 := (ev_cells RE).1
  clear hz hCA hCA0 hb0 R hnc hd hop ho hos hi hlt hk2 RC RE hb1
  go_enter Tryz.func74, Tryz.ntmps74
  go_wp2_with (refine wpList_load_row (by rfl) 33 (.tmp 3) (by rfl) w.heap.size (by rfl) 33 (csL x l).toArray (0, 0) _ hrow Tryz.underlying33 (by rfl) (size_case x l) ?_)
  refine hPr.mono ?_; rintro e w1 ⟨qa, ql, qc, rfl, hO, hb2⟩
  have hql : os.length = ql := hO.hlen
  have hqle := hO.hle
  have hqm := hO.hmax
  unfold maxLen at hqm
  have r1 : Row w1 w.heap.size (csL x l) 33 := Row.below hrow hb2 (by simp; omega)
  have e1 : Row w1 (w.heap.size + 1) [.int .i64 k, .int .i64 i, .int .i64 ev, .int .i64 ef, .int .i64 eis, .int .i64 edn] 88 := Row.below HRE.out hb2 (by simp)
  have B01 : Below w0.heap.size w0 w1 := HB00.out.trans (Below.mono hb2 HB00.out.size)
  have BW1 : Below w.heap.size w w1 := below_step HBW.out hb2 rfl
  obtain ⟨_, v1, _, v3, _, _⟩ := ev_cells e1
  clear v0 hPr hrow hb2
  by_cases hf : ef = 0
  · subst hf
    have hfz : faultF x.c o = 0 := Classical.byContradiction fun q => by
      have := (hf1 q).1
      exact q this.symm
    have hff := fault_free hfz
    have HLR : Hid (lineK x d ⟨(k : Int), (i : Int), ev, 0, eis, edn⟩ = o.2.1 / x.c.line) := by unfold Hid; rw [HLK.out, if_pos rfl]
    obtain ⟨pb, poff, rfl, c1, c2, c3⟩ := (hO.below B01 (Nat.le_refl _)).hat i (by omega)
    rw [HOP.out] at c1 c2 c3
    have lp := cell_lt c1
    have le1 := e1.lt
    have lr1 := r1.lt
    obtain ⟨x0, x1, x2, x3, x4, x5, x6, x7, x8, x9, x10, x11, x12⟩ := cs_cells r1
    obtain ⟨o1, o2, o3⟩ := o
    simp only at c1 c2 c3 hff HLR
    have p0 : 0 ≤ o2 := hff.1
    have p1 : o2 < 96 := by have := hff.2.1; omega
    have q0 : 0 ≤ o2 / x.c.line := Int.ediv_nonneg p0 (by omega)
    have q1 : o2 / x.c.line ≤ o2 := Int.ediv_le_self _ p0
    have hwl : IntKind.i64.wrap (o2 / x.c.line) = o2 / x.c.line := by rw [IntKind.wrap_i64]; omega
    clear hff
    have hFl : ∀ W : World, Calls Tryz.prog 130 #[cfgV x.c l.s, .agg (opArr (o1, o2, o3))] W fun e w' => e = .returned (.int .i64 0) ∧ Below W.heap.size W w' := fun W => by
      have := kflt_any x.c l.s (o1, o2, o3) W HZ.out
      rw [hfz] at this
      exact this
    have HFL : Hid _ := hFl
    have HB1 : Hid _ := BW1
    have HRW : Hid (Row w1 w.heap.size (csL x l) 33) := r1
    have HREV : Hid (Row w1 (w.heap.size + 1) [.int .i64 k, .int .i64 i, .int .i64 ev, .int .i64 0, .int .i64 eis, .int .i64 edn] 88) := e1
    clear hf1 hf2 hFl r1 e1 B01 BW1 hO hfz
    go_wp2_with fail
    go_region_with (go_at_call 130; refine (HFL.out _).mono ?_; rintro e w2 ⟨rfl, hb2⟩)
    all_goals
      have b2 : Below w1.heap.size w1 w2 := below_step ((Below.refl _ _).drew) hb2 rfl
      have r2 : Row w2 w.heap.size (csL x l) 33 := Row.below HRW.out b2 lr1
      have e2 : Row w2 (w.heap.size + 1) [.int .i64 k, .int .i64 i, .int .i64 ev, .int .i64 0, .int .i64 eis, .int .i64 edn] 88 := Row.below HREV.out b2 le1
      have z1 : w2.cell? ⟨w.heap.size + 1, 1, none⟩ = some (.int .i64 i) := e2.cell 1
      have z2 : w2.cell? ⟨w.heap.size, 2, none⟩ = some (.int .i64 x.c.line) := r2.cell 2
      have z3 : w2.cell? ⟨pb, poff + i * 3 + 1, none⟩ = some (.int .i64 o2) := (b2.cell (p := ⟨pb, poff + i * 3 + 1, none⟩) lp).trans c2
      have HB2 : Hid (Below w.heap.size w w2) := below_step HB1.out b2 rfl
      clear x0 x1 x2 x3 x4 x5 x6 x7 x8 x9 x10 x11 x12 v1 v3 hb2 b2 r2 e2
    all_goals go_wp2_with fail
    all_goals try go_quiet (fail)
    all_goals try go_wp2
    all_goals go_ret
    all_goals exact ⟨ret_int HLR.out.symm, by first | exact HB2.out | exact HB2.out.trans ⟨rfl, rfl, rfl, Nat.le_refl _, fun _ _ => rfl⟩⟩
  · have hfb : (ef != 0) = true := by simp [hf]
    have HB1 : Hid _ := BW1
    have HLR : Hid (lineK x d ⟨(k : Int), (i : Int), ev, ef, eis, edn⟩ = -1) := by unfold Hid; rw [HLK.out, if_neg hf]
    clear hf r1 e1 B01 BW1 hO
    go_wp2_with fail
    try go_quiet (fail)
    try go_wp2
    go_ret
    exact ⟨ret_int HLR.out.symm, by first | exact HB1.out | exact HB1.out.trans ⟨rfl, rfl, rfl, Nat.le_refl _, fun _ _ => rfl⟩⟩

set_option maxRecDepth 100000 in
set_option maxHeartbeats 6400000 in
theorem konly_any (x : Cs) (l : Cl) (hz : chk x.c = 0) (d nc k : Nat) (hd : (d : Int) < x.c.domains) (hnc : x.c.cores.toNat = nc) (w0 w : World) (hCA : CaseAt w0 x l) (hb0 : Below w0.heap.size w0 w) :
    Calls Tryz.prog 75 #[csV x l, .int .i64 d, .int .i64 k] w fun r w' => ∃ b, r = .returned (.bool b) ∧ (b = true → Alone (datK x) d k) ∧ Below w.heap.size w w' := by
  have R := right_of hz
  have hb1 : Below w.heap.size w (w.alloc (.cells (csA x l) 33)) := (Below.refl _ _).alloc (Nat.le_refl _) _
  have hR0 : Row (w.alloc (.cells (csA x l) 33)) w.heap.size (csL x l) 33 := heap_alloc_new w _
  have HR0 : Hid (Row (w.alloc (.cells (csA x l) 33)) w.heap.size (csL x l) 33) := hR0
  have HB0 : Hid _ := hb1
  have HCA : Hid _ := hCA
  have HB00 : Hid _ := hb0
  have HEC : Hid ((nc : Int) = x.c.cores) := by unfold Hid; have := R.c1; omega
  have hc3 : nc ≤ 3 := by have := R.c2; omega
  have hd4 : d ≤ 4 := by have := R.d2; omega
  have HAL : Hid ((∀ j, j < nc → j ≠ k → progK x (d * nc + j) = []) → Alone (datK x) d k) := fun q j hj hn => by
    have e1 : (datK x).c.cores.toNat = nc := hnc
    have : progF (datK x) d j = progK x (d * x.c.cores.toNat + j) := rfl
    rw [this, hnc]
    exact q j (by omega) hn
  clear hb1 hR0 hCA hb0 hz R hd hnc
  go_enter Tryz.func75, Tryz.ntmps75
  go_wp2_with fail
  go_loopw [7] (fun u wr => ∃ (K : Nat), K ≤ nc ∧ u = .int .i64 K ∧ Row wr w.heap.size (csL x l) 33 ∧ Below w.heap.size w wr ∧ ∀ j, j < K → j ≠ k → progK x (d * nc + j) = []) (fun u _ => nc - (intOf u).toNat)
  case atStart => exact ⟨0, by omega, rfl, HR0.out, HB0.out, fun j hj => by omega⟩
  case round =>
    obtain ⟨K, hK, rfl, r, hb, hall⟩ := hrel
    have y0 : wr.cell? ⟨w.heap.size, 0, none⟩ = some (.int .i64 nc) := by rw [HEC.out]; exact r.cell 0
    have lr := r.lt
    have HALL : Hid _ := hall
    have HBB : Hid _ := hb
    by_cases hlt : K < nc
    · have hPr := kprog_at x l d K nc w0 wr HCA.out (HB00.out.trans (hb.mono HB00.out.size)) HEC.out hc3 hd4 (by omega)
      have hrow := r
      clear hall hb r
      go_wp2_with (refine wpList_load_row (by rfl) 33 (.tmp 3) (by rfl) w.heap.size (by rfl) 33 (csL x l).toArray (0, 0) _ hrow Tryz.underlying33 (by rfl) (size_case x l) ?_)
      refine hPr.mono ?_; rintro e w1 ⟨qa, ql, qc, rfl, hO, hb2⟩
      have hql : (progK x (d * nc + K)).length = ql := hO.hlen
      have hqle := hO.hle
      have hqm := hO.hmax
      unfold maxLen at hqm
      have HR1 : Hid (Row w1 w.heap.size (csL x l) 33) := Row.below hrow hb2 lr
      have HB1 : Hid _ := below_step HBB.out hb2 rfl
      have HQL : Hid _ := hql
      clear hPr hO hb2 hrow hql y0
      by_cases hKk : K = k
      · subst hKk
        go_wp2_with fail
        go_roundw
        case rel => exact ⟨K + 1, by omega, by go_num, HR1.out, HB1.out, fun j hj hn => HALL.out j (by omega) hn⟩
        case measure => simp [intOf]; omega
      · have hne : ((K : Int) != (k : Int)) = true := by simp; omega
        by_cases hq : 0 < ql
        · go_wp2
          go_ret
          exact ⟨false, rfl, fun q => (by cases q), HB1.out⟩
        · have hq0 : ql = 0 := by omega
          subst hq0
          have HNIL : Hid (progK x (d * nc + K) = []) := List.eq_nil_of_length_eq_zero HQL.out
          go_wp2_with fail
          go_roundw
          case rel => exact ⟨K + 1, by omega, by go_num, HR1.out, HB1.out, fun j hj hn => by
            by_cases q : j = K
            · rw [q]; exact HNIL.out
            · exact HALL.out j (by omega) hn⟩
          case measure => simp [intOf]; omega
    · have HA : Hid (Alone (datK x) d k) := HAL.out (fun j hj hn => HALL.out j (by omega) hn)
      clear hall hb r
      go_wp2
      go_ret
      exact ⟨true, rfl, fun _ => HA.out, HBB.out⟩
end Go.Proofs.YtcmcfafhllpojaaGreat

namespace Go.Proofs.YtcmcfafhllpojaaGreat
open Go.RowKit

theorem tread_each {M : MDat} {d : Nat} {es : List Ev} (h : ReadOk M d es) : ∀ i, i < es.length → GoodEv M d (es.take i) (es.getD i evZ) := by
  induction h with
  | nil => intro i hi; simp at hi
  | snoc h1 h2 ih =>
    rename_i evs e
    intro i hi
    by_cases c : i < evs.length
    · have := ih i c
      rw [List.take_append_of_le_length (by omega), List.getD_eq_getElem?_getD, List.getElem?_append_left c, ← List.getD_eq_getElem?_getD]
      exact this
    · have e1 : i = evs.length := by simp at hi; omega
      subst e1
      rw [List.take_left, List.getD_eq_getElem?_getD, List.getElem?_append_right (Nat.le_refl _)]
      simpa using h2
theorem near_each {M : MDat} {d : Nat} {es : List Ev} (h : NearOk M d es) : ∀ i, i < es.length → NearEv M d (es.take i) (es.getD i evZ) := by
  induction h with
  | nil => intro i hi; simp at hi
  | snoc h1 h2 ih =>
    rename_i evs e
    intro i hi
    by_cases c : i < evs.length
    · have := ih i c
      rw [List.take_append_of_le_length (by omega), List.getD_eq_getElem?_getD, List.getElem?_append_left c, ← List.getD_eq_getElem?_getD]
      exact this
    · have e1 : i = evs.length := by simp at hi; omega
      subst e1
      rw [List.take_left, List.getD_eq_getElem?_getD, List.getElem?_append_right (Nat.le_refl _)]
      simpa using h2
theorem timed_each {M : MDat} {d : Nat} {es : List Ev} (h : TimedOk M d es) : ∀ i, i < es.length → TimedEv M d (es.take i) (es.getD i evZ) := by
  induction h with
  | nil => intro i hi; simp at hi
  | snoc h1 h2 ih =>
    rename_i evs e
    intro i hi
    by_cases c : i < evs.length
    · have := ih i c
      rw [List.take_append_of_le_length (by omega), List.getD_eq_getElem?_getD, List.getElem?_append_left c, ← List.getD_eq_getElem?_getD]
      exact this
    · have e1 : i = evs.length := by simp at hi; omega
      subst e1
      rw [List.take_left, List.getD_eq_getElem?_getD, List.getElem?_append_right (Nat.le_refl _)]
      simpa using h2

/-- Does one of the events vs hold the line of e at its core, in its turn; right before it? -/
def nb1 (x : Cs) (d : Nat) (e : Ev) (vs : List Ev) : Bool := vs.any fun v => decide (v.core = e.core ∧ lineK x d v = lineK x d e) && decide (v.issue / x.c.quantum = e.issue / x.c.quantum)
def nb2 (x : Cs) (d : Nat) (e : Ev) (vs : List Ev) : Bool := vs.any fun v => decide (v.core = e.core ∧ lineK x d v = lineK x d e) && decide (v.done + 1 = e.issue)
theorem ttake_one {es : List Ev} {i : Nat} (h : i < es.length) : es.take (i + 1) = es.take i ++ [es.getD i evZ] := by
  rw [List.take_add_one, List.getElem?_eq_getElem h, List.getD_eq_getElem?_getD, List.getElem?_eq_getElem h]
  rfl
theorem nb1_snoc (x : Cs) (d : Nat) (e : Ev) (vs : List Ev) (v : Ev) : nb1 x d e (vs ++ [v]) = (nb1 x d e vs || (decide (v.core = e.core ∧ lineK x d v = lineK x d e) && decide (v.issue / x.c.quantum = e.issue / x.c.quantum))) := by
  unfold nb1; rw [List.any_append]; simp
theorem nb2_snoc (x : Cs) (d : Nat) (e : Ev) (vs : List Ev) (v : Ev) : nb2 x d e (vs ++ [v]) = (nb2 x d e vs || (decide (v.core = e.core ∧ lineK x d v = lineK x d e) && decide (v.done + 1 = e.issue))) := by
  unfold nb2; rw [List.any_append]; simp

theorem lineK_nn {x : Cs} (hz : chk x.c = 0) {d : Nat} {evs : List Ev} {e : Ev} (hg : GoodEv (datK x) d evs e) : (e.fault = 0 → 0 ≤ lineK x d e ∧ faultF x.c (opOf (datK x) d e) = 0) ∧ (e.fault ≠ 0 → lineK x d e = -1) := by
  obtain ⟨k, _, _, _, _, h1, h2⟩ := hg
  refine ⟨fun q => ?_, fun q => by unfold lineK; rw [if_neg q]⟩
  have hf : faultF x.c (opOf (datK x) d e) = 0 := Classical.byContradiction fun g => by
    have := (h1 g).1
    rw [q] at this
    exact g this.symm
  refine ⟨?_, hf⟩
  unfold lineK
  rw [if_pos q]
  have := (fault_free hf).1
  exact Int.ediv_nonneg this (by have := (nm_of hz).ln; show 0 ≤ x.c.line; omega)

/-- What is done at once was near. -/
theorem near_once {x : Cs} {d : Nat} {es : List Ev} {i : Nat} (hn : NearEv (datK x) d (es.take i) (es.getD i evZ)) (hf : (es.getD i evZ).fault = 0) (hd : (es.getD i evZ).done = (es.getD i evZ).issue) : nb1 x d (es.getD i evZ) (es.take i) = true := by
  obtain ⟨v, hv, h1, h2, _, h4, h5⟩ := hn.once hf hd
  unfold nb1
  rw [List.any_eq_true]
  refine ⟨v, hv, ?_⟩
  simp only [Bool.and_eq_true, decide_eq_true_eq]
  refine ⟨⟨h1, ?_⟩, h5⟩
  unfold lineK
  rw [if_pos h2, if_pos hf]
  exact h4
/-- What isn't, where the domain works at one core alone, does not follow right behind one of its line. -/
theorem near_right {x : Cs} {d k : Nat} {es : List Ev} {i : Nat} (hn : NearEv (datK x) d (es.take i) (es.getD i evZ)) (hf : (es.getD i evZ).fault = 0) (hl : 0 ≤ lineK x d (es.getD i evZ)) (hd : (es.getD i evZ).done ≠ (es.getD i evZ).issue) (ha : Alone (datK x) d k) : nb2 x d (es.getD i evZ) (es.take i) = false := by
  cases q : nb2 x d (es.getD i evZ) (es.take i) with
  | false => rfl
  | true =>
    exfalso
    unfold nb2 at q
    rw [List.any_eq_true] at q
    obtain ⟨v, hv, g⟩ := q
    simp only [Bool.and_eq_true, decide_eq_true_eq] at g
    obtain ⟨⟨_, g2⟩, g3⟩ := g
    have vf : v.fault = 0 := Classical.byContradiction fun c => by
      unfold lineK at g2 hl
      rw [if_neg c, if_pos hf] at g2
      rw [if_pos hf] at hl
      omega
    unfold lineK at g2
    rw [if_pos vf, if_pos hf] at g2
    exact hn.right k ha hf hd v hv vf g2 g3
end Go.Proofs.YtcmcfafhllpojaaGreat
