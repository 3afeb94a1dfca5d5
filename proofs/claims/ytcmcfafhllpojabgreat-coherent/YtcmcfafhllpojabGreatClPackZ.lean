/-
  KaseH, KaseI, KaseJ
-/
import Derived.Test.YtcmcfafhllpojabGreatClPackAT
namespace Go.Proofs.YtcmcfafhllpojabGreat
open Go.RowKit

/-- The time behind a piece. -/
def goT (t : Nat) (n : Int) : Nat := if n < 0 ∨ 10000 - (t : Int) < n then t else t + n.toNat
theorem goT_le {t : Nat} (n : Int) (h : t ≤ 10000) : t ≤ goT t n ∧ goT t n ≤ 10000 := by
  unfold goT
  split <;> omega

set_option maxRecDepth 100000 in
set_option maxHeartbeats 3200000 in
theorem kgoes_any (x : Cs) (hz : chk x.c = 0) (X : XLoc) (t : Nat) (ht : t ≤ 10000) (n : Int) (w : World) (hM : MachM w (cnOf x.c) X (Mh.runs (cnOf x.c) t (machK x))) :
    Calls Tryz.prog 11 #[.pointer (some ⟨X.g, 0, none⟩), .int .i64 t, .int .i64 n] w fun e w' => ∃ X', e = .returned (.tuple #[.int .i64 (goT t n), .bool true]) ∧ MachM w' (cnOf x.c) X' (Mh.runs (cnOf x.c) (goT t n) (machK x)) ∧ Goes w w' X X' := by
  have HM : Hid _ := hM
  by_cases a1 : n < 0
  · have HT : Hid (goT t n = t) := by unfold Hid goT; rw [if_pos (Or.inl a1)]
    clear hM
    go_enter Tryz.func11, Tryz.ntmps11
    go_wp2
    go_ret2
    rw [HT.out]
    first | exact ⟨X, rfl, HM.out, Goes.refl _ _⟩ | exact ⟨rfl, X, HM.out, Goes.refl _ _⟩
  · by_cases a2 : 10000 - (t : Int) < n
    · have HT : Hid (goT t n = t) := by unfold Hid goT; rw [if_pos (Or.inr a2)]
      clear hM
      go_enter Tryz.func11, Tryz.ntmps11
      go_wp2
      go_ret2
      rw [HT.out]
      first | exact ⟨X, rfl, HM.out, Goes.refl _ _⟩ | exact ⟨rfl, X, HM.out, Goes.refl _ _⟩
    · obtain ⟨j, rfl⟩ := Int.eq_ofNat_of_zero_le (show 0 ≤ n by omega)
      have HT : Hid (goT t (j : Int) = t + j) := by unfold Hid goT; rw [if_neg (by omega), Int.toNat_natCast]
      obtain ⟨ok, now⟩ := runsK_ok x hz t
      obtain ⟨_, now2⟩ := runsK_ok x hz (t + j)
      have hRn := wRun_any (cnOf x.c) X _ (j : Int) w hM ok
      have er : runME (Mh.runs (cnOf x.c) t (machK x)) (j : Int) = 0 := by unfold runME; rw [now, if_neg (by omega), if_neg (by omega)]
      have em : runMM (cnOf x.c) (Mh.runs (cnOf x.c) t (machK x)) (j : Int) = Mh.runs (cnOf x.c) (t + j) (machK x) := by unfold runMM; rw [if_pos er, Int.toNat_natCast, runs_add]
      rw [er, em] at hRn
      have HN2 : Hid _ := now2
      clear hM er em ok now now2
      go_enter Tryz.func11, Tryz.ntmps11
      go_wp2_with fail
      refine hRn.mono ?_; rintro e w1 ⟨rfl, X1, hM1, hG1⟩
      have hNw := wNow_any (cnOf x.c) X1 _ w1 hM1
      rw [HN2.out, hG1.g] at hNw
      have e2 : ((t + j : Nat) : Int) = (t : Int) + (j : Int) := by omega
      rw [e2] at hNw
      have HM1 : Hid _ := hM1
      have HG1 : Hid _ := hG1
      clear hRn hM1 hG1
      go_wp2_with fail
      refine hNw.mono ?_; rintro e w2 ⟨rfl, rfl⟩
      clear hNw
      go_wp2
      go_ret2
      rw [HT.out]
      exact ⟨X1, by rw [e2]; rfl, HM1.out, HG1.out⟩

set_option maxRecDepth 100000 in
set_option maxHeartbeats 1600000 in
theorem kroom_any (c : Cf) (s : Sl) (w : World) (h : CfgAt w c s) (R : Right c) :
    Calls Tryz.prog 71 #[cfgV c s] w fun e w' => e = .returned (.int .i64 (c.quantum - c.flush - worstZ c)) ∧ Below w.heap.size w w' := by
  have w0 := R.w0
  have w1 := R.w1
  have f1 := R.f1
  have f2 := R.f2
  have q1 := R.q1
  have q2 := R.q2
  have hv1 : IntKind.i64.wrap (c.quantum - c.flush) = c.quantum - c.flush := by rw [IntKind.wrap_i64]; omega
  have hv2 : IntKind.i64.wrap (c.quantum - c.flush - worstZ c) = c.quantum - c.flush - worstZ c := by rw [IntKind.wrap_i64]; omega
  go_enter Tryz.func71, Tryz.ntmps71
  go_wp2_with fail
  go_region_with (go_at_call 70; refine (kworst_any c s _ (by exact (h.alloc _).drew) R).mono ?_; rintro e w1 ⟨rfl, hb⟩; obtain ⟨hc, hfz, hz⟩ := bcellN (w.heap.size + 1) hb (by simp))
  all_goals go_wp2_with fail
  all_goals go_ret
  all_goals exact ⟨rfl, (((Below.refl _ _).alloc (Nat.le_refl _) _).drew).trans (hb.mono (by simp))⟩
end Go.Proofs.YtcmcfafhllpojabGreat

namespace Go.Proofs.YtcmcfafhllpojabGreat
open Go.RowKit

def sureZ (c : Cf) (core : Nat) (d now : Int) : Int := if d ∈ rowOf c core then now / (((rowOf c core).length : Int) * c.quantum) * gZ c else 0

/-- As many are done as must be. -/
theorem grownK (x : Cs) (hz : chk x.c = 0) (T : Nat) (hT : T ≤ 10000) (core d : Nat) (hc : core < x.c.cores.toNat) (hd : (d : Int) < x.c.domains) :
    sureZ x.c core d T ≤ nextAt (datK x) d core T ∨ nextAt (datK x) d core T = (progK x (d * x.c.cores.toNat + core)).length := by
  have hle := at_all x hz T hT d core hc
  have h0 := ((SoOk.upto (M := datK x) (d := d) hz T hT).nx core hc).1
  have h0' : 0 ≤ nextAt (datK x) d core T := h0
  unfold sureZ
  by_cases hin : (d : Int) ∈ rowOf x.c core
  · rw [if_pos hin]
    have R := right_of hz
    have w0 := R.w0
    have q1 := R.q1
    have f1 := R.f1
    have hg : gZ x.c = 1 + (x.c.quantum - x.c.flush - worstZ x.c - 1) / (worstZ x.c + 1) := rfl
    have hg1 : 1 ≤ gZ x.c := by
      rw [hg]
      have := Int.ediv_nonneg (show 0 ≤ x.c.quantum - x.c.flush - worstZ x.c - 1 by omega) (show 0 ≤ worstZ x.c + 1 by omega)
      omega
    obtain ⟨g, hgg⟩ := Int.eq_ofNat_of_zero_le (show 0 ≤ gZ x.c by omega)
    obtain ⟨Q, hQ⟩ := Int.eq_ofNat_of_zero_le (show 0 ≤ x.c.quantum by omega)
    obtain ⟨n, hn⟩ : ∃ n, (rowOf x.c core).length = n := ⟨_, rfl⟩
    have e1 : (T : Int) / (((rowOf x.c core).length : Int) * x.c.quantum) = ((T / (n * Q) : Nat) : Int) := by
      rw [hn, hQ, ← Int.natCast_mul, ← Int.natCast_ediv]
    have hr : T / (n * Q) * (n * Q) ≤ T := Nat.div_mul_le_self _ _
    have rd := rounds_done (M := datK x) (d := d) (k := core) (g := g) (Q := Q) (n := n) hz hd hc hQ.symm (by rw [← hgg]; exact hg) hn hin (T / (n * Q)) (by omega)
    have mo := next_mono (M := datK x) (d := d) (k := core) hz hc (T / (n * Q) * (n * Q)) (T - T / (n * Q) * (n * Q)) (by omega)
    rw [show T / (n * Q) * (n * Q) + (T - T / (n * Q) * (n * Q)) = T by omega] at mo
    rw [e1, hgg, ← Int.natCast_mul]
    have e3 : ((progF (datK x) d core).length : Int) = (progK x (d * x.c.cores.toNat + core)).length := rfl
    rcases rd with rd | rd
    · left; omega
    · right; omega
  · rw [if_neg hin]; left; exact h0'

set_option maxRecDepth 100000 in
set_option maxHeartbeats 3200000 in
theorem ksure_any (c : Cf) (s : Sl) (core : Nat) (d : Int) (now : Nat) (w : World) (h : CfgAt w c s) (R : Right c) (hc : core < c.cores.toNat) (hn : now ≤ 10000) :
    Calls Tryz.prog 39 #[cfgV c s, .int .i64 core, .int .i64 d, .int .i64 now] w fun e w' => e = .returned (.int .i64 (sureZ c core d now)) ∧ Below w.heap.size w w' := by
  have k0 := Kept.start w (cfgA c s) 29
  have h0 := h.below k0.below (Nat.le_refl _)
  have htl : core < s.tl := by have := h.turns.hlen; have := R.tl; omega
  obtain ⟨tb, toff, ia, il, ic, hta, hcell, hints⟩ := h0.turns.hat core htl
  have htm := h.turns.hmax
  have htle := h.turns.hle
  unfold maxLen at htm
  have hrl : (rowOf c core).length = il := hints.hlen
  have hrb := grid_row R (i := core) (by have := R.tl; omega)
  have hil4 : il ≤ 4 := by rw [← hrl]; exact hrb.1
  have hil1 : 1 ≤ il := by rw [← hrl]; exact hrb.2
  have hile := hints.hle
  have hilm := hints.hmax
  unfold maxLen at hilm
  obtain ⟨wa, wl, wc, sa, sl, sc, ta, tl, tc⟩ := s
  simp only at hta htl htm htle
  subst hta
  have lT := cell_lt hcell
  have hSt := kstands_any ia il ic (rowOf c core) d _ hints
  have y10 : (w.alloc (.cells (cfgA c ⟨wa, wl, wc, sa, sl, sc, some ⟨tb, toff, none⟩, tl, tc⟩) 29)).cell? ⟨w.heap.size, 10, none⟩ = some (.slice (some ⟨tb, toff, none⟩) tl tc) := k0.box 10
  have HB0 : Hid _ := k0.below
  have HRW : Hid (Row (w.alloc (.cells (cfgA c ⟨wa, wl, wc, sa, sl, sc, some ⟨tb, toff, none⟩, tl, tc⟩) 29)) w.heap.size (cfgL c ⟨wa, wl, wc, sa, sl, sc, some ⟨tb, toff, none⟩, tl, tc⟩) 29) := heap_alloc_new w _
  have HH : Hid _ := h
  have HR : Hid _ := R
  have w0 := R.w0
  have w1 := R.w1
  have f1 := R.f1
  have q1 := R.q1
  have q2 := R.q2
  by_cases hin : d ∈ rowOf c core
  · have hdec : decide (d ∈ rowOf c core) = true := decide_eq_true hin
    rw [hdec] at hSt
    have HS : Hid (sureZ c core d now = (now : Int) / ((il : Int) * c.quantum) * (1 + (c.quantum - c.flush - worstZ c - 1) / (worstZ c + 1))) := by unfold Hid sureZ; rw [if_pos hin, hrl]; rfl
    obtain ⟨p1, hp1⟩ : ∃ p1, (il : Int) * c.quantum = p1 := ⟨_, rfl⟩
    have hp1b : 1 ≤ p1 ∧ p1 ≤ 8000 := by
      rw [← hp1]
      refine ⟨?_, ?_⟩
      · have := Int.mul_le_mul (show (1 : Int) ≤ il by omega) (show (1 : Int) ≤ c.quantum by omega) (by omega) (by omega); omega
      · have := Int.mul_le_mul (show (il : Int) ≤ 4 by omega) q2 (by omega) (by omega); omega
    rw [hp1] at HS
    obtain ⟨p2, hp2⟩ : ∃ p2, (now : Int) / p1 = p2 := ⟨_, rfl⟩
    have hp2b : 0 ≤ p2 ∧ p2 ≤ 10000 := by
      rw [← hp2]
      exact ⟨Int.ediv_nonneg (by omega) (by omega), Int.le_trans (Int.ediv_le_self _ (by omega)) (by omega)⟩
    obtain ⟨p3, hp3⟩ : ∃ p3, (c.quantum - c.flush - worstZ c - 1) / (worstZ c + 1) = p3 := ⟨_, rfl⟩
    have hp3b : 0 ≤ p3 ∧ p3 ≤ 2000 := by
      rw [← hp3]
      refine ⟨Int.ediv_nonneg (by omega) (by omega), Int.le_trans (Int.ediv_le_self _ (by omega)) (by omega)⟩
    rw [hp2, hp3] at HS
    have hp4 : 0 ≤ p2 * (1 + p3) ∧ p2 * (1 + p3) ≤ 20010000 := ⟨Int.mul_nonneg hp2b.1 (by omega), by have := Int.mul_le_mul hp2b.2 (show 1 + p3 ≤ 2001 by omega) (by omega) (by omega); omega⟩
    have hq0 : 0 ≤ c.quantum - c.flush - worstZ c - 1 := by omega
    have hv1 : IntKind.i64.wrap (c.quantum - c.flush - worstZ c - 1) = c.quantum - c.flush - worstZ c - 1 := by rw [IntKind.wrap_i64]; omega
    have n1 : ¬ p1 = 0 := by omega
    have n2 : ¬ worstZ c + 1 = 0 := by omega
    clear hdec hin hrl hrb h0 h R k0
    go_enter Tryz.func39, Tryz.ntmps39
    go_wp2_with fail
    refine hSt.mono ?_; rintro e w2 ⟨rfl, rfl⟩
    obtain ⟨x0, x1, x2, x3, x4, x5, x6, x7, x8, x9, x10, x11, x12⟩ := cfg_cells HRW.out
    have hW := kworst_any c _ _ (HH.out.below HB0.out (Nat.le_refl _)) HR.out
    clear hSt hcell y10
    go_wp2_with fail
    refine hW.mono ?_; rintro e w3 ⟨rfl, hb3⟩
    have B3 := below_step HB0.out hb3 rfl
    have R3 : Row w3 w.heap.size (cfgL c ⟨wa, wl, wc, sa, sl, sc, some ⟨tb, toff, none⟩, tl, tc⟩) 29 := Row.below HRW.out hb3 (by simp)
    clear x0 x1 x2 x3 x4 x5 x6 x7 x8 x9 x10 x11 x12 hW
    obtain ⟨x0, x1, x2, x3, x4, x5, x6, x7, x8, x9, x10, x11, x12⟩ := cfg_cells R3
    have hRo := kroom_any c _ w3 (HH.out.below B3 (Nat.le_refl _)) HR.out
    have HB3 : Hid _ := B3
    have HR3 : Hid (Row w3 w.heap.size (cfgL c ⟨wa, wl, wc, sa, sl, sc, some ⟨tb, toff, none⟩, tl, tc⟩) 29) := R3
    have l3 := R3.lt
    clear B3 R3 hb3
    go_wp2_with fail
    refine hRo.mono ?_; rintro e w4 ⟨rfl, hb4⟩
    have B4 := below_step HB3.out hb4 rfl
    have R4 : Row w4 w.heap.size (cfgL c ⟨wa, wl, wc, sa, sl, sc, some ⟨tb, toff, none⟩, tl, tc⟩) 29 := Row.below HR3.out hb4 l3
    have z11 : w4.cell? ⟨w.heap.size, 11, none⟩ = some (.int .i64 c.quantum) := R4.cell 11
    have HB4 : Hid _ := B4
    clear x0 x1 x2 x3 x4 x5 x6 x7 x8 x9 x10 x11 x12 hRo B4 R4 hb4
    go_wp2
    go_ret
    exact ⟨ret_int (by rw [HS.out]), HB4.out⟩
  · have hdec : decide (d ∈ rowOf c core) = false := decide_eq_false hin
    rw [hdec] at hSt
    have HS : Hid (sureZ c core d now = 0) := by unfold Hid sureZ; rw [if_neg hin]
    clear hdec hin hrl hrb h0 h R k0
    go_enter Tryz.func39, Tryz.ntmps39
    go_wp2_with fail
    refine hSt.mono ?_; rintro e w2 ⟨rfl, rfl⟩
    clear hSt hcell y10
    go_wp2
    go_ret
    exact ⟨ret_int HS.out.symm, HB0.out⟩
end Go.Proofs.YtcmcfafhllpojabGreat

namespace Go.Proofs.YtcmcfafhllpojabGreat
open Go.RowKit

set_option maxRecDepth 100000 in
set_option maxHeartbeats 3200000 in
theorem kgrown_any (x : Cs) (l : Cl) (hz : chk x.c = 0) (d : Nat) (hd : (d : Int) < x.c.domains) (T : Nat) (hT : T ≤ 10000) (es : List Ev) (hes : es = (So.upto (datK x) d T).evs) (sa : Option Addr) (len cap : Nat) (w : World) (h : CaseAt w x l) (hE : EvsAt w sa len cap es) (hl : len ≤ 100000) :
    Calls Tryz.prog 16 #[csV x l, .slice sa len cap, .int .i64 d, .int .i64 T] w fun e w' => e = .returned (.bool true) ∧ Below w.heap.size w w' := by
  have R := right_of hz
  have hb0 : Below w.heap.size w (w.alloc (.cells (csA x l) 33)) := (Below.refl _ _).alloc (Nat.le_refl _) _
  have hR0 : Row (w.alloc (.cells (csA x l) 33)) w.heap.size (csL x l) 33 := heap_alloc_new w _
  have HR0 : Hid (Row (w.alloc (.cells (csA x l) 33)) w.heap.size (csL x l) 33) := hR0
  have HB0 : Hid _ := hb0
  have HCA : Hid _ := h
  have HE : Hid _ := hE
  have HZ : Hid _ := hz
  have HR : Hid _ := R
  have HD : Hid _ := hd
  have HES : Hid _ := hes
  obtain ⟨nc, hnc⟩ : ∃ nc, x.c.cores.toNat = nc := ⟨_, rfl⟩
  have HEC : Hid ((nc : Int) = x.c.cores) := by unfold Hid; have := R.c1; omega
  have hc3 : nc ≤ 3 := by have := R.c2; omega
  have hd4 : d ≤ 4 := by have := R.d2; omega
  have HNC : Hid _ := hnc
  clear hb0 hR0 h hE hz R hd hes hnc
  go_enter Tryz.func16, Tryz.ntmps16
  go_wp2_with fail
  go_loopw [9] (fun u wr => ∃ (K : Nat), K ≤ nc ∧ u = .int .i64 K ∧ Row wr w.heap.size (csL x l) 33 ∧ Below w.heap.size w wr) (fun u _ => nc - (intOf u).toNat)
  case atStart => exact ⟨0, by omega, rfl, HR0.out, HB0.out⟩
  case round =>
    obtain ⟨K, hK, rfl, hr, hb⟩ := hrel
    have y0 : wr.cell? ⟨w.heap.size, 0, none⟩ = some (.int .i64 nc) := by rw [HEC.out]; exact hr.cell 0
    have lr := hr.lt
    by_cases hlt : K < nc
    · have hAt := kat_any sa len cap es (K : Int) wr (HE.out.below hb (Nat.le_refl _)) hl
      have hSu := ksure_any x.c l.s K (d : Int) T wr (HCA.out.below hb (Nat.le_refl _)).cfg HR.out (by rw [HNC.out]; exact hlt) hT
      have HG : Hid _ := grownK x HZ.out T hT K d (by rw [HNC.out]; exact hlt) HD.out
      have HAN : Hid _ := atK_next x HZ.out T hT d K (by rw [HNC.out]; exact hlt)
      have hatl : atK es (K : Int) ≤ len := Nat.le_trans (at_le _ _) (by rw [HE.out.hlen]; exact Nat.le_refl _)
      have HRR : Hid (Row wr w.heap.size (csL x l) 33) := hr
      have HBB : Hid _ := hb
      obtain ⟨x0, x1, x2, x3, x4, x5, x6, x7, x8, x9, x10, x11, x12⟩ := cs_cells hr
      have y0' : wr.cell? ⟨w.heap.size, 0, none⟩ = some (.int .i64 x.c.cores) := x0
      have hKc : (K : Int) < x.c.cores := by rw [← HEC.out]; omega
      obtain ⟨dn, hdn⟩ : ∃ dn, atK es (K : Int) = dn := ⟨_, rfl⟩
      rw [hdn] at hAt hatl
      have HDN : Hid _ := hdn
      obtain ⟨sv, hsv⟩ : ∃ sv, sureZ x.c K (d : Int) (T : Int) = sv := ⟨_, rfl⟩
      rw [hsv] at hSu HG
      clear hr hb hdn hsv y0
      go_wp2_with fail
      refine hAt.mono ?_; rintro e w1 ⟨rfl, rfl⟩
      clear hAt
      go_wp2_with fail
      refine hSu.mono ?_; rintro e w2 ⟨rfl, hb2⟩
      have R2 : Row w2 w.heap.size (csL x l) 33 := Row.below HRR.out hb2 lr
      have B2 : Below w.heap.size w w2 := below_step HBB.out hb2 rfl
      have hPr := kprogram_any x l d K nc w2 (HCA.out.below B2 (Nat.le_refl _)) HEC.out hc3 hd4 (by omega)
      have hrow := R2
      have lr2 := R2.lt
      have HB2 : Hid _ := B2
      clear x0 x1 x2 x3 x4 x5 x6 x7 x8 x9 x10 x11 x12 hSu R2 B2 hb2 y0'
      go_wp2_with (refine wpList_load_row (by rfl) 33 (.tmp 4) (by rfl) w.heap.size (by rfl) 33 (csL x l).toArray (0, 0) _ hrow Tryz.underlying33 (by rfl) (size_case x l) ?_)
      refine hPr.mono ?_; rintro e w3 ⟨qa, ql, qc, rfl, hO, hb3⟩
      have hql : (progK x (d * nc + K)).length = ql := hO.hlen
      have hqc := hO.hle
      have hqm := hO.hmax
      unfold maxLen at hqm
      have hfin : sv ≤ dn ∨ dn = ql := by
        have h1 := HG.out
        rw [← HAN.out, ← HES.out, HDN.out, HNC.out, hql] at h1
        omega
      have HR3 : Hid (Row w3 w.heap.size (csL x l) 33) := Row.below hrow hb3 lr2
      have HB3 : Hid (Below w.heap.size w w3) := below_step HB2.out hb3 rfl
      clear hPr hO hb3 hql hrow
      by_cases hc1 : (dn : Int) < sv
      · have hd1 : dn = ql := by omega
        subst hd1
        go_wp2_with fail
        go_roundw
        case rel => exact ⟨K + 1, by omega, by go_num, HR3.out, HB3.out⟩
        case measure => simp [intOf]; omega
      · go_wp2_with fail
        go_roundw
        case rel => exact ⟨K + 1, by omega, by go_num, HR3.out, HB3.out⟩
        case measure => simp [intOf]; omega
    · have HB3 : Hid _ := hb
      clear hr hb
      go_wp2
      go_ret
      exact ⟨rfl, HB3.out⟩
end Go.Proofs.YtcmcfafhllpojabGreat
