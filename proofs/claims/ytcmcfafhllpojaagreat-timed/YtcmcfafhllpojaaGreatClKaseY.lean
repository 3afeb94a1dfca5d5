/-
  A case of wallskeep: inTime.
-/
import Derived.Test.YtcmcfafhllpojaaGreatClPackAI
namespace Go.Proofs.YtcmcfafhllpojaaGreat
open Go.RowKit

set_option maxRecDepth 100000 in
set_option maxHeartbeats 6400000 in
theorem kinTime_any (x : Cs) (l : Cl) (hz : chk x.c = 0) (d : Nat) (evs : List Ev) (e : Ev) (hg : TimedEv (datK x) d evs e) (k f T : Nat) (hk : e.core = k) (hf : freeOf k evs = f) (hT : e.done < T) (hTm : T ≤ 10000) (w0 w : World) (hCA : CaseAt w0 x l) (hb0 : Below w0.heap.size w0 w) :
    Calls Tryz.prog 37 #[csV x l, .int .i64 d, .agg (eventL e).toArray, .int .i64 f, .int .i64 T] w fun r w' => r = .returned (.bool true) ∧ Below w.heap.size w w' := by
  have R := right_of hz
  obtain ⟨⟨k', hk1, hk2, ho, hfr, hno⟩, hord, hflt, hpl, _⟩ := hg
  obtain rfl : k' = k := by omega
  have hkc : (k' : Int) < x.c.cores := by
    have h1 : k' < x.c.cores.toNat := hk2
    omega
  obtain ⟨ec, ei, ev, ef, eis, edn⟩ := e
  simp only at hk hT ho hfr hno hord hflt hpl hk1
  subst hk
  rw [hf] at hfr hno
  obtain ⟨u, rfl⟩ := Int.eq_ofNat_of_zero_le (show 0 ≤ eis by omega)
  obtain ⟨t, rfl⟩ := Int.eq_ofNat_of_zero_le (show 0 ≤ edn by omega)
  have hb1 : Below w.heap.size w ((w.alloc (.cells (csA x l) 33)).alloc (.cells #[.int .i64 k', .int .i64 ei, .int .i64 ev, .int .i64 ef, .int .i64 u, .int .i64 t] 88)) := ((Below.refl _ _).alloc (Nat.le_refl _) _).alloc (by simp) _
  have RC : Row ((w.alloc (.cells (csA x l) 33)).alloc (.cells #[.int .i64 k', .int .i64 ei, .int .i64 ev, .int .i64 ef, .int .i64 u, .int .i64 t] 88)) w.heap.size (csL x l) 33 := Row.alloc (heap_alloc_new w _) _
  have RE : Row ((w.alloc (.cells (csA x l) 33)).alloc (.cells #[.int .i64 k', .int .i64 ei, .int .i64 ev, .int .i64 ef, .int .i64 u, .int .i64 t] 88)) (w.heap.size + 1) [.int .i64 k', .int .i64 ei, .int .i64 ev, .int .i64 ef, .int .i64 u, .int .i64 t] 88 := by
    have := heap_alloc_new (w.alloc (.cells (csA x l) 33)) (.cells #[.int .i64 k', .int .i64 ei, .int .i64 ev, .int .i64 ef, .int .i64 u, .int .i64 t] 88)
    rw [World.size_alloc] at this
    exact this
  have hcA : CaseAt ((w.alloc (.cells (csA x l) 33)).alloc (.cells #[.int .i64 k', .int .i64 ei, .int .i64 ev, .int .i64 ef, .int .i64 u, .int .i64 t] 88)) x l := hCA.below (below_step hb0 hb1 rfl) (Nat.le_refl _)
  have hOp := kopens_any x.c l.s k' d f u _ hcA.cfg hz hkc (by omega) (by omega) ho hno
  obtain ⟨x0, x1, x2, x3, x4, x5, x6, x7, x8, x9, x10, x11, x12⟩ := cs_cells RC
  obtain ⟨v0, _, _, _, _, _⟩ := ev_cells RE
  have HRC : Hid (Row ((w.alloc (.cells (csA x l) 33)).alloc (.cells #[.int .i64 k', .int .i64 ei, .int .i64 ev, .int .i64 ef, .int .i64 u, .int .i64 t] 88)) w.heap.size (csL x l) 33) := RC
  have HRE : Hid (Row ((w.alloc (.cells (csA x l) 33)).alloc (.cells #[.int .i64 k', .int .i64 ei, .int .i64 ev, .int .i64 ef, .int .i64 u, .int .i64 t] 88)) (w.heap.size + 1) [.int .i64 k', .int .i64 ei, .int .i64 ev, .int .i64 ef, .int .i64 u, .int .i64 t] 88) := RE
  have HB1 : Hid _ := hb1
  have HCA : Hid _ := hCA
  have HB00 : Hid _ := hb0
  have HR : Hid _ := R
  have w0' := R.w0
  have w1' := R.w1
  have q2' := R.q2
  have hwst : worstZ x.c ≤ 288 := (worst_bd R.c1 R.c2 R.s1 R.s2 R.t2).2
  clear RC RE hb1 hb0 hCA hcA R ho hno hfr hk2 hkc hz
  go_enter Tryz.func37, Tryz.ntmps37
  go_wp2_with fail
  refine hOp.mono ?_; rintro r w1 ⟨rfl, hb1⟩
  have r1 : Row w1 w.heap.size (csL x l) 33 := Row.below HRC.out hb1 (by simp; omega)
  have e1 : Row w1 (w.heap.size + 1) [.int .i64 k', .int .i64 ei, .int .i64 ev, .int .i64 ef, .int .i64 u, .int .i64 t] 88 := Row.below HRE.out hb1 (by simp)
  have B1 : Below w.heap.size w w1 := below_step HB1.out hb1 rfl
  clear x0 x1 x2 x3 x4 x5 x6 x7 x8 x9 x10 x11 x12 v0 hOp hb1 HRC HRE HB1
  obtain ⟨_, _, _, v3, v4, v5⟩ := ev_cells e1
  have HB1 : Hid _ := B1
  have HRC : Hid (Row w1 w.heap.size (csL x l) 33) := r1
  have HRE : Hid (Row w1 (w.heap.size + 1) [.int .i64 k', .int .i64 ei, .int .i64 ev, .int .i64 ef, .int .i64 u, .int .i64 t] 88) := e1
  have lr1 := r1.lt
  have le1 := e1.lt
  have hu0 : ¬ (u : Int) < 0 := by omega
  have hT' : ¬ (T : Int) ≤ (t : Int) := by omega
  by_cases hef : ef = 0
  · subst hef
    rcases hpl rfl with hp | ⟨hp1, hp2, hp3⟩
    · obtain rfl : t = u := by omega
      clear hflt hpl r1 e1 B1
      go_wp2_with fail
      try go_quiet (fail)
      try go_wp2_with fail
      try go_quiet (fail)
      try go_wp2
      go_ret
      exact ⟨rfl, by first | exact HB1.out | exact HB1.out.trans ⟨rfl, rfl, rfl, Nat.le_refl _, fun _ _ => rfl⟩⟩
    · have hne : ((t : Int) == (u : Int)) = false := by simp; omega
      have hSv := kserves_any x.c l.s (d : Int) (t : Int) w1 (HCA.out.below (HB00.out.trans (B1.mono HB00.out.size)) (Nat.le_refl _)).cfg HR.out (by omega) (by omega)
      have hp1' : servesB x.c (d : Int) (t : Int) = true := hp1
      rw [hp1'] at hSv
      have HP3 : (t : Int) - (u : Int) ≤ worstZ x.c := by
        have : (t : Int) ≤ (u : Int) + worstZ x.c := hp3
        omega
      obtain ⟨x0, x1, x2, x3, x4, x5, x6, x7, x8, x9, x10, x11, x12⟩ := cs_cells r1
      clear hflt hpl r1 e1 B1 hp3 hp1 hp1'
      go_wp2_with fail
      refine hSv.mono ?_; rintro r w2 ⟨rfl, hb2⟩
      have r2 : Row w2 w.heap.size (csL x l) 33 := Row.below HRC.out hb2 lr1
      have e2 : Row w2 (w.heap.size + 1) [.int .i64 k', .int .i64 ei, .int .i64 ev, .int .i64 0, .int .i64 u, .int .i64 t] 88 := Row.below HRE.out hb2 le1
      have B2 : Below w.heap.size w w2 := below_step HB1.out hb2 rfl
      clear x0 x1 x2 x3 x4 x5 x6 x7 x8 x9 x10 x11 x12 v3 v4 v5 hSv hb2
      obtain ⟨x0, x1, x2, x3, x4, x5, x6, x7, x8, x9, x10, x11, x12⟩ := cs_cells r2
      obtain ⟨_, _, _, _, v4, v5⟩ := ev_cells e2
      have lr2 := r2.lt
      have le2 := e2.lt
      have HB2 : Hid _ := B2
      have HC2 : Hid (CfgAt w2 x.c l.s) := (HCA.out.below (HB00.out.trans (B2.mono HB00.out.size)) (Nat.le_refl _)).cfg
      have hlt : (u : Int) < (t : Int) := by omega
      have hws : IntKind.i64.wrap ((t : Int) - (u : Int)) = (t : Int) - (u : Int) := by rw [IntKind.wrap_i64]; omega
      clear r2 e2 B2
      go_wp2_with fail
      go_region_with (go_at_call 17; refine (kworst_any x.c l.s _ (by exact HC2.out.drew) HR.out).mono ?_; rintro r w3 ⟨rfl, hb3⟩; have z4 : w3.cell? ⟨w.heap.size + 1, 4, none⟩ = some (.int .i64 u) := (hb3.cell (p := ⟨w.heap.size + 1, 4, none⟩) le2).trans v4; have z5 : w3.cell? ⟨w.heap.size + 1, 5, none⟩ = some (.int .i64 t) := (hb3.cell (p := ⟨w.heap.size + 1, 5, none⟩) le2).trans v5)
      all_goals have HB3 : Hid (Below w.heap.size w w3) := below_step HB2.out.drew hb3 rfl
      all_goals clear x0 x1 x2 x3 x4 x5 x6 x7 x8 x9 x10 x11 x12 hb3
      all_goals go_wp2
      all_goals go_ret
      all_goals exact ⟨rfl, HB3.out⟩
  · have hfb : (ef != 0) = true := by simp [hef]
    have hd2 := hflt hef
    have hd3 : (t : Int) = (u : Int) + 2 := hd2
    have hq : ((t : Int) == (u : Int) + 2) = true := by simp [hd3]
    have hq3 : IntKind.i64.wrap ((u : Int) + 3) = (u : Int) + 3 := by rw [IntKind.wrap_i64]; omega
    clear hflt hpl r1 e1 B1 hef hd2
    go_wp2_with fail
    try go_quiet (fail)
    try go_wp2_with fail
    try go_quiet (fail)
    try go_wp2
    go_ret
    refine ⟨?_, by first | exact HB1.out | exact HB1.out.trans ⟨rfl, rfl, rfl, Nat.le_refl _, fun _ _ => rfl⟩⟩
    exact ret_bool (by simp; omega)
end Go.Proofs.YtcmcfafhllpojaaGreat
