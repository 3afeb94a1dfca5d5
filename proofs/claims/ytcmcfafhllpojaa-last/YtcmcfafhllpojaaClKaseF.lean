/-
  A case of wallskeep: goes, pick, swift.
-/
import Derived.Test.YtcmcfafhllpojaaClKaseD
import Derived.Test.YtcmcfafhllpojaaClPackV
import Derived.Test.YtcmcfafhllpojaaClPackW
namespace Go.Proofs.Ytcmcfafhllpojaa
open Go.RowKit

/-- The machine of a case, while a law runs that began in the world w. -/
structure KCtx (w wr : World) (x : Cs) (X : XLoc) (m : Mh) : Prop where
  mach : MachM wr (cnOf x.c) X m
  mine : ∀ b, X.mine b → w.heap.size ≤ b
  bel : Below w.heap.size w wr
theorem KCtx.goes {w wr wr' : World} {x : Cs} {X X' : XLoc} {m m' : Mh} (h : KCtx w wr x X m) (hg : Goes wr wr' X X') (hM : MachM wr' (cnOf x.c) X' m') : KCtx w wr' x X' m' := by
  have hs := h.bel.size
  refine ⟨hM, fun b hb => ?_, h.bel.trans (hg.tch.below _ hs h.mine)⟩
  by_cases c : b < wr.heap.size
  · exact h.mine b (hg.lab b c hb)
  · omega
theorem KCtx.below {w wr wr' : World} {x : Cs} {X : XLoc} {m : Mh} (h : KCtx w wr x X m) (hb : Below wr.heap.size wr wr') : KCtx w wr' x X m :=
  ⟨h.mach.below hb (Nat.le_refl _), h.mine, below_step h.bel hb rfl⟩
theorem KSt.ctx {w wr : World} {x : Cs} {l : Cl} {X : XLoc} {m : Mh} (h : KSt w wr x l X m) : KCtx w wr x X m := ⟨h.mach, fun b hb => by have := h.mine b hb; omega, h.bel⟩

theorem runs_zero (N : Cn) (m : Mh) : Mh.runs N 0 m = m := rfl

/-- A trace as it is told. -/
theorem trace_at {w : World} {N : Cn} {m : Mh} {d : Nat} (hd : (d : Int) < N.c.domains) (hl : (m.tr d).length ≤ 192) : EvsAt (traceW N m d w) (some ⟨w.heap.size, 0, none⟩) (m.tr d).length (m.tr d).length (m.tr d) ∧ traceV N m d w.heap.size = .slice (some ⟨w.heap.size, 0, none⟩) (m.tr d).length (m.tr d).length ∧ traceME N d = 0 ∧ Below w.heap.size w (traceW N m d w) := by
  have hno : ¬ ((d : Int) < 0 ∨ N.c.domains ≤ (d : Int)) := by omega
  have e1 : traceW N m d w = w.alloc (.cells ((m.tr d).flatMap eventL).toArray 83) := by
    unfold traceW; rw [if_neg hno, Int.toNat_natCast]
  refine ⟨?_, by unfold traceV; rw [if_neg hno, Int.toNat_natCast], by unfold traceME; rw [if_neg hno], by rw [e1]; exact (Below.refl _ _).alloc (Nat.le_refl _) _⟩
  rw [e1]
  have hrow : Row (w.alloc (.cells ((m.tr d).flatMap eventL).toArray 83)) w.heap.size ((m.tr d).flatMap eventL) 83 := heap_alloc_new w _
  have flat : ∀ (es : List Ev) (i j : Nat), i < es.length → j < 6 → (es.flatMap eventL)[i * 6 + j]? = (eventL (es.getD i evZ))[j]? := by
    intro es
    induction es with
    | nil => intro i j hi; simp at hi
    | cons e es ih =>
      intro i j hi hj
      rw [List.flatMap_cons]
      have hl6 : (eventL e).length = 6 := rfl
      cases i with
      | zero =>
        rw [List.getElem?_append_left (by rw [hl6]; omega)]
        simp
      | succ i =>
        rw [List.getElem?_append_right (by rw [hl6]; omega), hl6, show (i + 1) * 6 + j - 6 = i * 6 + j by omega, ih i j (by simpa using hi) hj]
        simp
  refine ⟨rfl, Nat.le_refl _, by unfold maxLen; omega, fun i hi => ⟨w.heap.size, 0, rfl, ?_⟩⟩
  have c := fun j (hj : j < 6) => (hrow.cell (i * 6 + j)).trans (flat (m.tr d) i j hi hj)
  refine ⟨?_, ?_, ?_, ?_, ?_, ?_⟩
  · rw [Nat.zero_add]; exact c 0 (by omega)
  · rw [Nat.zero_add]; exact c 1 (by omega)
  · rw [Nat.zero_add]; exact c 2 (by omega)
  · rw [Nat.zero_add]; exact c 3 (by omega)
  · rw [Nat.zero_add]; exact c 4 (by omega)
  · rw [Nat.zero_add]; exact c 5 (by omega)

set_option maxRecDepth 100000 in
set_option maxHeartbeats 1600000 in
theorem kpick_any (c : Int) (n : Nat) (h0 : 0 < n) (h1 : n ≤ 1000) (hc0 : -9223372036854775808 ≤ c) (hc1 : c ≤ 9223372036854775807) (w : World) :
    Calls Try.prog 17 #[.int .i64 c, .int .i64 n] w fun e w' => ∃ k : Nat, k < n ∧ e = .returned (.int .i64 k) ∧ w' = w := by
  have hn0 : ¬ (n : Int) = 0 := by omega
  by_cases b : c < 0
  · obtain ⟨q, hq⟩ := Int.eq_ofNat_of_zero_le (show 0 ≤ -(c + 1) by omega)
    have hm : (-(c + 1)).tmod (n : Int) = ((q % n : Nat) : Int) := by rw [hq]; rfl
    have hlt := Nat.mod_lt q h0
    go_enter Try.func17, Try.ntmps17
    go_wp2
    go_ret
    exact ⟨q % n, hlt, ret_int (by simp), rfl⟩
  · obtain ⟨q, rfl⟩ := Int.eq_ofNat_of_zero_le (show 0 ≤ c by omega)
    have hlt := Nat.mod_lt q h0
    go_enter Try.func17, Try.ntmps17
    go_wp2
    go_ret
    exact ⟨q % n, hlt, ret_int (by simp), rfl⟩

set_option maxRecDepth 100000 in
set_option maxHeartbeats 6400000 in
theorem kswift_any (x : Cs) (l : Cl) (core d k : Nat) (w : World) (h : CaseAt w x l) (hz : chk x.c = 0) (hc : core < x.c.cores.toNat) (hd : (d : Int) < x.c.domains) (hk : k ≤ 64) :
    Calls Try.prog 18 #[csV x l, .int .i64 core, .int .i64 d, .int .i64 k] w fun e w' => e = .returned (.bool true) ∧ Below w.heap.size w w' := by
  have R := right_of hz
  have hnc := (nm_of hz).nc
  have e1 : (cnOf x.c).nc = x.c.cores.toNat := rfl
  have hb0 : Below w.heap.size w (w.alloc (.cells (csA x l) 39)) := (Below.refl _ _).alloc (Nat.le_refl _) _
  have hR0 : Row (w.alloc (.cells (csA x l) 39)) w.heap.size (csL x l) 39 := heap_alloc_new w _
  have h0 := h.below hb0 (Nat.le_refl _)
  have htl : core < l.s.tl := by have := h.cfg.turns.hlen; have := R.tl; omega
  obtain ⟨tb, toff, ia, il, ic, hta, hcell, hints⟩ := h0.cfg.turns.hat core htl
  obtain ⟨⟨wa, wl, wc, sa, sl, sc, ta, tl, tc⟩, pa, pl, pc, oa, ol, oc, ma, ml, mc, ra, rl, rc⟩ := l
  simp only at hta
  subst hta
  have htm := h.cfg.turns.hmax
  simp only at htm htl
  have htle := h.cfg.turns.hle
  unfold maxLen at htm
  have hrl : (rowOf x.c core).length = il := hints.hlen
  have hrb := grid_row R (i := core) (by have := R.tl; omega)
  have hil4 : il ≤ 4 := by rw [← hrl]; exact hrb.1
  have hile := hints.hle
  have hilm := hints.hmax
  unfold maxLen at hilm
  have lT := cell_lt hcell
  have hSt := kstands_any ia il ic (rowOf x.c core) d _ hints
  have hEn := Enough_any x.c _ core d k _ h0.cfg
  obtain ⟨y0, y1, y2, y3, y4, y5, y6, y7, y8, y9, y10', y11, y12⟩ := cs_cells hR0
  have y10 : (w.alloc (.cells (csA x ⟨⟨wa, wl, wc, sa, sl, sc, some ⟨tb, toff, none⟩, tl, tc⟩, pa, pl, pc, oa, ol, oc, ma, ml, mc, ra, rl, rc⟩) 39)).cell? ⟨w.heap.size, 10, none⟩ = some (.slice (some ⟨tb, toff, none⟩) tl tc) := y10'
  have HR0 : Hid (Row (w.alloc (.cells (csA x ⟨⟨wa, wl, wc, sa, sl, sc, some ⟨tb, toff, none⟩, tl, tc⟩, pa, pl, pc, oa, ol, oc, ma, ml, mc, ra, rl, rc⟩) 39)) w.heap.size (csL x ⟨⟨wa, wl, wc, sa, sl, sc, some ⟨tb, toff, none⟩, tl, tc⟩, pa, pl, pc, oa, ol, oc, ma, ml, mc, ra, rl, rc⟩) 39) := hR0
  have HB0 : Hid _ := hb0
  have HCA : Hid _ := h
  have HZ : Hid _ := hz
  have HRL : Hid _ := hrl
  have HC : Hid _ := hc
  have HD : Hid _ := hd
  have hq1 := R.q1
  have hq2 := R.q2
  have hf1 := R.f1
  have hw0 := R.w0
  have HNC : Hid _ := hnc
  clear y10' hrl hb0 hR0 h0 h hz hints R hrb hnc e1 hc hd
  by_cases hin : (d : Int) ∈ rowOf x.c core
  · have hdec : decide ((d : Int) ∈ rowOf x.c core) = true := decide_eq_true hin
    rw [hdec] at hSt
    obtain ⟨k1, k2, k3, k4⟩ := enoughK x HZ.out core d k HC.out HD.out (by omega) (by omega) hin
    obtain ⟨k5, _⟩ := enough_yes HZ.out k1
    rw [k5] at hEn
    rw [HRL.out] at k3
    obtain ⟨n, hn⟩ : ∃ n, enoughN x.c core d k = n := ⟨_, rfl⟩
    rw [hn] at hEn k2 k3 k4
    have hkl : 0 ≤ (k : Int) * (il : Int) ∧ (k : Int) * (il : Int) ≤ 256 := ⟨Int.mul_nonneg (by omega) (by omega), by have := Int.mul_le_mul (show (k : Int) ≤ 64 by omega) (show (il : Int) ≤ 4 by omega) (by omega) (by omega); omega⟩
    have hkq : 0 ≤ (k : Int) * (il : Int) * x.c.quantum ∧ (k : Int) * (il : Int) * x.c.quantum ≤ 512000 := ⟨Int.mul_nonneg hkl.1 (by omega), by have := Int.mul_le_mul hkl.2 hq2 (by omega) (by omega); omega⟩
    obtain ⟨p1, hp1⟩ : ∃ p1, (k : Int) * (il : Int) = p1 := ⟨_, rfl⟩
    rw [hp1] at hkl hkq k3
    obtain ⟨p2, hp2⟩ : ∃ p2, p1 * x.c.quantum = p2 := ⟨_, rfl⟩
    rw [hp2] at hkq k3
    have HK4 : Hid _ := k4
    clear hdec hin k1 k4 k5 hn hq1 hf1 hw0
    go_enter Try.func18, Try.ntmps18
    go_wp2_with fail
    refine hSt.mono ?_; rintro e w1 ⟨rfl, rfl⟩
    clear hSt hcell
    go_wp2_with fail
    refine hEn.mono ?_; rintro e w2 ⟨rfl, hb2⟩
    have R2 : Row w2 w.heap.size (csL x ⟨⟨wa, wl, wc, sa, sl, sc, some ⟨tb, toff, none⟩, tl, tc⟩, pa, pl, pc, oa, ol, oc, ma, ml, mc, ra, rl, rc⟩) 39 := Row.below HR0.out hb2 (by simp)
    have B2 := below_step HB0.out hb2 rfl
    have z11 : w2.cell? ⟨w.heap.size, 11, none⟩ = some (.int .i64 x.c.quantum) := R2.cell 11
    have hMc := kmachine_good x _ w2 (HCA.out.below B2 (Nat.le_refl _)) HZ.out
    have hrow := R2
    have lR := R2.lt
    have HB2 : Hid _ := B2
    clear hEn y0 y1 y2 y3 y4 y5 y6 y7 y8 y9 y10 y11 y12 R2 B2 hb2
    go_wp2_with (refine wpList_load_row (by rfl) 39 (.tmp 4) (by rfl) w.heap.size (by rfl) 39 (csL x ⟨⟨wa, wl, wc, sa, sl, sc, some ⟨tb, toff, none⟩, tl, tc⟩, pa, pl, pc, oa, ol, oc, ma, ml, mc, ra, rl, rc⟩).toArray (0, 0) _ hrow Try.underlying39 (by rfl) (size_case x _) ?_)
    refine hMc.mono ?_; rintro e w3 ⟨X, rfl, hK⟩
    obtain ⟨nn, rfl⟩ := Int.eq_ofNat_of_zero_le k2
    have K3 := hK.ctx
    have R3 : Row w3 w.heap.size (csL x ⟨⟨wa, wl, wc, sa, sl, sc, some ⟨tb, toff, none⟩, tl, tc⟩, pa, pl, pc, oa, ol, oc, ma, ml, mc, ra, rl, rc⟩) 39 := Row.below hrow hK.bel lR
    have B3 : Below w.heap.size w w3 := below_step HB2.out hK.bel rfl
    have hRn := wRun_any (cnOf x.c) X (machK x) (nn : Int) w3 K3.mach (machK_ok x)
    have hnow0 : (machK x).now = 0 := rfl
    have HK3 : Hid _ := K3
    have HR3 : Hid (Row w3 w.heap.size (csL x ⟨⟨wa, wl, wc, sa, sl, sc, some ⟨tb, toff, none⟩, tl, tc⟩, pa, pl, pc, oa, ol, oc, ma, ml, mc, ra, rl, rc⟩) 39) := R3
    have lR3 := R3.lt
    have HB3 : Hid _ := B3
    clear hK hMc hrow K3 R3 B3 z11
    by_cases hbig : nn ≤ 10000
    · have er : runME (machK x) (nn : Int) = 0 := by unfold runME; rw [hnow0, if_neg (by omega), if_neg (by omega)]
      have em : runMM (cnOf x.c) (machK x) (nn : Int) = Mh.runs (cnOf x.c) nn (machK x) := by unfold runMM; rw [if_pos er, Int.toNat_natCast]
      rw [er, em] at hRn
      have HBG : Hid _ := hbig
      clear er em
      go_wp2_with fail
      refine hRn.mono ?_; rintro e w4 ⟨rfl, X4, hM4, hG4⟩
      have K4 := HK3.out.goes hG4 hM4
      have R4 : Row w4 w.heap.size (csL x ⟨⟨wa, wl, wc, sa, sl, sc, some ⟨tb, toff, none⟩, tl, tc⟩, pa, pl, pc, oa, ol, oc, ma, ml, mc, ra, rl, rc⟩) 39 := Row.same HR3.out (hG4.tch.block _ lR3 (fun hm => by have := HK3.out.mine _ hm; omega))
      have B4 : Below w.heap.size w w4 := HB3.out.trans (hG4.tch.below _ HB3.out.size (fun b hb => by have := HK3.out.mine b hb; omega))
      obtain ⟨ok4, now4⟩ := runsK_ok x HZ.out nn
      have hNw := wNow_any (cnOf x.c) X4 _ w4 K4.mach
      have hTr := wTrace_any (cnOf x.c) X4 _ (d : Int) w4 K4.mach ok4
      rw [now4, hG4.g] at hNw
      rw [hG4.g] at hTr
      have htl192 := ok4.trl (by show x.c.cores.toNat ≤ 3; have := (right_of HZ.out).c2; omega) d
      obtain ⟨t1, t2, t3, t4⟩ := trace_at (w := w4) (N := cnOf x.c) (m := Mh.runs (cnOf x.c) nn (machK x)) (d := d) HD.out htl192
      rw [t2, t3] at hTr
      have HAT : Hid _ := atK_next x HZ.out nn (by omega) d core HC.out
      have HTK : Hid _ := traceK x HZ.out nn (by omega) d HD.out
      obtain ⟨es, hes⟩ : ∃ es, (Mh.runs (cnOf x.c) nn (machK x)).tr d = es := ⟨_, rfl⟩
      rw [hes] at t1 hTr htl192 HTK
      obtain ⟨w6, hw6⟩ : ∃ w6, traceW (cnOf x.c) (Mh.runs (cnOf x.c) nn (machK x)) (d : Int) w4 = w6 := ⟨_, rfl⟩
      rw [hw6] at t1 t4 hTr
      have R6 : Row w6 w.heap.size (csL x ⟨⟨wa, wl, wc, sa, sl, sc, some ⟨tb, toff, none⟩, tl, tc⟩, pa, pl, pc, oa, ol, oc, ma, ml, mc, ra, rl, rc⟩) 39 := R4.below t4 R4.lt
      have B6 := below_step B4 t4 rfl
      have hPr := kprogram_any x _ d core x.c.cores.toNat w6 (HCA.out.below B6 (Nat.le_refl _)) HNC.out (by have := (right_of HZ.out).c2; omega) (by have := (right_of HZ.out).d2; have := HD.out; omega) (by have := (right_of HZ.out).c2; have := HC.out; omega)
      have HEV : Hid _ := t1
      have HB6 : Hid _ := B6
      have hrow := R6
      have lR6 := R6.lt
      clear hM4 hG4 hRn K4 R4 B4 ok4 now4 t1 t2 t3 t4 hes hw6 R6 B6
      go_wp2_with fail
      refine hNw.mono ?_; rintro e w5 ⟨rfl, rfl⟩
      clear hNw
      go_wp2_with fail
      refine hTr.mono ?_; rintro e w5 ⟨rfl, rfl⟩
      clear hTr
      go_wp2_with (refine wpList_load_row (by rfl) 39 (.tmp 4) (by rfl) w.heap.size (by rfl) 39 (csL x ⟨⟨wa, wl, wc, sa, sl, sc, some ⟨tb, toff, none⟩, tl, tc⟩, pa, pl, pc, oa, ol, oc, ma, ml, mc, ra, rl, rc⟩).toArray (0, 0) _ hrow Try.underlying39 (by rfl) (size_case x _) ?_)
      refine hPr.mono ?_; rintro e w7 ⟨qa, ql, qc, rfl, hO, hb7⟩
      have hAt := kat_any _ es.length es.length es (core : Int) w7 (HEV.out.below hb7 (Nat.le_refl _)) (by omega)
      have HOL : Hid _ := hO.hlen
      have hqc := hO.hle
      have hqm := hO.hmax
      unfold maxLen at hqm
      have HB7 : Hid _ := below_step HB6.out hb7 rfl
      clear hPr hO hb7 hrow HEV
      go_wp2_with fail
      refine hAt.mono ?_; rintro e w8 ⟨rfl, rfl⟩
      have hdn := HK4.out (by have := HBG.out; omega)
      rw [Int.toNat_natCast, ← HAT.out, ← HTK.out, HOL.out] at hdn
      have hdle := at_le es (core : Int)
      obtain ⟨dn, hde⟩ : ∃ dn, atK es (core : Int) = dn := ⟨_, rfl⟩
      rw [hde] at hdn hdle
      rw [hde]
      clear hAt hde HK4 HAT HTK
      rcases hdn with hdn | hdn
      · go_wp2
        go_ret
        exact ⟨rfl, HB7.out⟩
      · have hdq : dn = ql := by omega
        subst hdq
        by_cases hge : (k : Int) ≤ dn
        · go_wp2
          go_ret
          exact ⟨rfl, HB7.out⟩
        · go_wp2
          go_ret
          exact ⟨rfl, HB7.out⟩
    · have er : runME (machK x) (nn : Int) = 9 := by unfold runME; rw [hnow0, if_neg (by omega), if_pos (by omega)]
      have em : runMM (cnOf x.c) (machK x) (nn : Int) = machK x := by unfold runMM; rw [if_neg (by omega)]
      rw [er, em] at hRn
      clear er em
      go_wp2_with fail
      refine hRn.mono ?_; rintro e w4 ⟨rfl, X4, hM4, hG4⟩
      have hNw := wNow_any (cnOf x.c) X4 _ w4 hM4
      rw [hnow0, hG4.g] at hNw
      have HB4 : Hid (Below w.heap.size w w4) := HB3.out.trans (hG4.tch.below _ HB3.out.size (fun b hb => by have := HK3.out.mine b hb; omega))
      clear hRn hM4 hG4
      go_wp2_with fail
      refine hNw.mono ?_; rintro e w5 ⟨rfl, rfl⟩
      clear hNw
      go_wp2
      go_ret
      exact ⟨rfl, HB4.out⟩
  · have hdec : decide ((d : Int) ∈ rowOf x.c core) = false := decide_eq_false hin
    rw [hdec] at hSt
    have hno : enoughOk x.c core d k = false := by
      refine ok_none ?_
      have : (x.c.turns.getD (core : Int).toNat []).count (d : Int) = 0 := List.count_eq_zero.2 (by rw [Int.toNat_natCast]; exact hin)
      rw [this]; rfl
    obtain ⟨k5, k6⟩ := enough_no HZ.out hno
    rw [k5, k6] at hEn
    clear hdec hin hno k5 k6 hq1 hf1 hw0
    go_enter Try.func18, Try.ntmps18
    go_wp2_with fail
    refine hSt.mono ?_; rintro e w1 ⟨rfl, rfl⟩
    clear hSt hcell
    go_wp2_with fail
    refine hEn.mono ?_; rintro e w2 ⟨rfl, hb2⟩
    have HB2 : Hid _ := below_step HB0.out hb2 rfl
    clear hEn y0 y1 y2 y3 y4 y5 y6 y7 y8 y9 y10 y11 y12 hb2
    go_wp2
    go_ret
    exact ⟨rfl, HB2.out⟩
end Go.Proofs.Ytcmcfafhllpojaa
