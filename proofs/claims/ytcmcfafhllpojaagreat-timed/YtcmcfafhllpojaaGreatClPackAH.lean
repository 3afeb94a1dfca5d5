/-
  KaseV, KaseW
-/
import Derived.Test.YtcmcfafhllpojaaGreatClPackU
import Derived.Test.YtcmcfafhllpojaaGreatClKeepP
import Derived.Test.YtcmcfafhllpojaaGreatClPackA
import Derived.Deep.QuietTactic
import Derived.BigQuiet
import Derived.Test.YtcmcfafhllpojaaGreatClPackB
namespace Go.Proofs.YtcmcfafhllpojaaGreat
open Go.RowKit

set_option maxRecDepth 100000 in
set_option maxHeartbeats 1600000 in
theorem krm_any (c : Cf) (s : Sl) (w : World) (h : CfgAt w c s) (R : Right c) :
    Calls Tryz.prog 78 #[cfgV c s] w fun e w' => e = .returned (.int .i64 (c.quantum - c.flush - worstZ c)) ∧ Below w.heap.size w w' := by
  have w0 := R.w0
  have w1 := R.w1
  have f1 := R.f1
  have f2 := R.f2
  have q1 := R.q1
  have q2 := R.q2
  have hv1 : IntKind.i64.wrap (c.quantum - c.flush) = c.quantum - c.flush := by rw [IntKind.wrap_i64]; omega
  have hv2 : IntKind.i64.wrap (c.quantum - c.flush - worstZ c) = c.quantum - c.flush - worstZ c := by rw [IntKind.wrap_i64]; omega
  go_enter Tryz.func78, Tryz.ntmps78
  go_wp2_with fail
  go_region_with (go_at_call 17; refine (kworst_any c s _ (by exact (h.alloc _).drew) R).mono ?_; rintro e w1 ⟨rfl, hb⟩; obtain ⟨hc, hfz, hz⟩ := bcellN (w.heap.size + 1) hb (by simp))
  all_goals go_wp2_with fail
  all_goals go_ret
  all_goals exact ⟨rfl, (((Below.refl _ _).alloc (Nat.le_refl _) _).drew).trans (hb.mono (by simp))⟩

set_option maxRecDepth 100000 in
set_option maxHeartbeats 1600000 in
theorem kturn_any (c : Cf) (s : Sl) (i : Nat) (t : Int) (w : World) (h : CfgAt w c s) (hz : chk c = 0) (hi : (i : Int) < c.cores) (t0 : 0 ≤ t) (tm : t ≤ 1000000) :
    Calls Tryz.prog 162 #[cfgV c s, .int .i64 i, .int .i64 t] w fun e w' => e = .returned (.int .i64 (turnZ c i t)) ∧ Below w.heap.size w w' := by
  have k0 := Kept.start w (cfgA c s) 29
  have htl := h.turns.hlen
  have htle := h.turns.hle
  have htm := h.turns.hmax
  unfold maxLen at htm
  obtain ⟨c1, c2, d1, d2, s1, s2, t1, t2, w0, w1, f1, f2, q1, q2, tl, each⟩ := right_of hz
  have R := right_of hz
  have tl' : (s.tl : Int) = c.cores := by rw [← htl]; exact tl
  have HTL : Hid _ := htl
  have tl3 : s.tl ≤ 3 := by omega
  have hi2 : i < s.tl := by omega
  obtain ⟨b, off, ia, il, ic, hta, hc, hints⟩ := h.turns.hat i hi2
  have hrow := grid_row R (show i < c.turns.length by rw [HTL.out]; exact hi2)
  have hlen := hints.hlen
  have ile := hints.hle
  have ilm := hints.hmax
  unfold maxLen at ilm
  have hil : il ≤ 4 := by omega
  have hil0 : 1 ≤ il := by omega
  have HBD : b < w.heap.size := cell_lt hc
  obtain ⟨wa, wl, wc, sa, sl, sc, ta, tl, tc⟩ := s
  dsimp only at *
  subst hta
  have hz2 : turnZ c i t = (c.turns.getD i []).getD (t / c.quantum % ((c.turns.getD i []).length : Int)).toNat 0 := rfl
  rw [hlen] at hz2
  obtain ⟨j, hj, hjl⟩ := mod_nat (a := t / c.quantum) (n := il) (by omega)
  rw [hj, Int.toNat_natCast] at hz2
  obtain ⟨b2, off2, hia, hc2⟩ := hints.hat j hjl
  subst hia
  have HBD2 : b2 < w.heap.size := cell_lt hc2
  have y1 : 0 < c.quantum := by omega
  have y2 : 0 ≤ t / c.quantum := Int.ediv_nonneg t0 (by omega)
  have y3 : t / c.quantum ≤ t := Int.ediv_le_self _ t0
  have i1 : (0 : Int) < (il : Int) := by omega
  have iz : ((il : Int) == 0) = false := by simp; omega
  rw [hz2]
  generalize (c.turns.getD i []).getD j 0 = v at *
  clear hz hz2 hlen hrow tl' htl each
  go_enter Tryz.func162, Tryz.ntmps162
  go_wp2
  go_ret
  exact ⟨rfl, k0.below⟩

set_option maxRecDepth 100000 in
set_option maxHeartbeats 1600000 in
theorem kopen_any (c : Cf) (s : Sl) (i d : Nat) (t : Int) (w : World) (h : CfgAt w c s) (hz : chk c = 0) (hi : (i : Int) < c.cores) (t0 : 0 ≤ t) (tm : t ≤ 1000000) :
    Calls Tryz.prog 129 #[cfgV c s, .int .i64 i, .int .i64 d, .int .i64 t] w fun e w' => e = .returned (.bool (openB c i d t)) ∧ Below w.heap.size w w' := by
  have k0 := Kept.start w (cfgA c s) 29
  have R := right_of hz
  have w0 := R.w0
  have w1 := R.w1
  have f1 := R.f1
  have f2 := R.f2
  have q1 := R.q1
  have q2 := R.q2
  have y1 : 0 < c.quantum := by omega
  have m1 : 0 ≤ t % c.quantum := Int.emod_nonneg _ (by omega)
  have m2 : t % c.quantum < c.quantum := Int.emod_lt_of_pos _ y1
  have wm : IntKind.i64.wrap (t % c.quantum) = t % c.quantum := by rw [IntKind.wrap_i64]; omega
  have hT := kturn_any c s i t _ (h.below k0.below (Nat.le_refl _)) hz hi t0 tm
  have HO : Hid (openB c i d t = ((turnZ c i t == (d : Int)) && decide (t % c.quantum < c.quantum - c.flush - worstZ c))) := by
    unfold Hid openB
    rw [decide_eq_true (show (0 : Int) ≤ (d : Int) by omega), Bool.and_true]
  have HH : Hid _ := h
  have HZ : Hid _ := hz
  clear h hz
  go_enter Tryz.func129, Tryz.ntmps129
  go_wp2_with fail
  refine hT.mono ?_; rintro e wt ⟨rfl, hb1⟩
  have k1 := k0.next hb1 rfl
  have q1' := k1.box
  clear hT hb1
  by_cases a : turnZ c i t = (d : Int)
  · have ab : (turnZ c i t == (d : Int)) = true := by simp [a]
    have HO2 : Hid (openB c i d t = decide (t % c.quantum < c.quantum - c.flush - worstZ c)) := by unfold Hid; rw [HO.out, ab]; rfl
    have cf := (HH.out.below k1.below (Nat.le_refl _)).drew
    have k1d := k1.drew
    clear a
    go_wp2_with fail
    go_region_with (go_at_call 78; refine (krm_any c s _ cf R).mono ?_; rintro e w2 ⟨rfl, hb2⟩; have k2 := k1d.next hb2 rfl; have q2' := k2.box)
    all_goals go_wp2
    all_goals go_ret
    all_goals exact ⟨ret_bool HO2.out.symm, k2.below⟩
  · have ab : (turnZ c i t == (d : Int)) = false := by simp [a]
    have HO2 : Hid (openB c i d t = false) := by unfold Hid; rw [HO.out, ab]; rfl
    go_wp2_with fail
    go_quiet (fail)
    go_wp2
    go_ret
    exact ⟨ret_bool HO2.out.symm, below_drewN k1.below _⟩
theorem open_row {c : Cf} {i d : Nat} {t : Int} (hz : chk c = 0) (hi : (i : Int) < c.cores) (h : openB c i d t = true) : (d : Int) ∈ rowOf c i := by
  have R := right_of hz
  have hr := grid_row R (i := i) (by have := R.tl; omega)
  unfold openB turnZ at h
  simp only [Bool.and_eq_true, beq_iff_eq] at h
  obtain ⟨j, hj, hjl⟩ := mod_nat (a := t / c.quantum) (n := (rowOf c i).length) (by unfold rowOf; omega)
  rw [hj, Int.toNat_natCast, List.getD_eq_getElem?_getD, List.getElem?_eq_getElem hjl] at h
  rw [← h.1.1]
  exact List.getElem_mem _

set_option maxRecDepth 100000 in
set_option maxHeartbeats 1600000 in
theorem kopens_any (c : Cf) (s : Sl) (i d t u : Nat) (w : World) (h : CfgAt w c s) (hz : chk c = 0) (hi : (i : Int) < c.cores) (htu : t ≤ u) (hu : u ≤ 100000) (ho : openB c i d u = true) (hn : ∀ v : Int, (t : Int) ≤ v → v < u → openB c i d v = false) :
    Calls Tryz.prog 72 #[cfgV c s, .int .i64 i, .int .i64 d, .int .i64 t] w fun e w' => e = .returned (.int .i64 u) ∧ Below w.heap.size w w' := by
  have k0 := Kept.start w (cfgA c s) 29
  have R := right_of hz
  have h0 := h.below k0.below (Nat.le_refl _)
  have htl : i < s.tl := by have := h.turns.hlen; have := R.tl; omega
  obtain ⟨tb, toff, ia, il, ic, hta, hcell, hints⟩ := h0.turns.hat i htl
  have htm := h.turns.hmax
  have htle := h.turns.hle
  unfold maxLen at htm
  have hilm := hints.hmax
  have hile := hints.hle
  unfold maxLen at hilm
  obtain ⟨wa, wl, wc, sa, sl, sc, ta, tl, tc⟩ := s
  simp only at hta htl htm htle
  subst hta
  have lT := cell_lt hcell
  have hSt := kstands_any ia il ic (rowOf c i) d _ hints
  rw [decide_eq_true (open_row hz hi ho)] at hSt
  have hOp := kopen_any c _ i d t _ h0 hz hi (by omega) (by omega)
  have y10 : (w.alloc (.cells (cfgA c ⟨wa, wl, wc, sa, sl, sc, some ⟨tb, toff, none⟩, tl, tc⟩) 29)).cell? ⟨w.heap.size, 10, none⟩ = some (.slice (some ⟨tb, toff, none⟩) tl tc) := k0.box 10
  have HH : Hid _ := h
  have HZ : Hid _ := hz
  have HO : Hid _ := ho
  have HN : Hid _ := hn
  have HK0 : Hid _ := k0
  clear h hz ho hn R h0
  go_enter Tryz.func72, Tryz.ntmps72
  go_wp2_with fail
  refine hSt.mono ?_; rintro e w2 ⟨rfl, rfl⟩
  have q0 := k0.box
  clear hSt hcell y10 hints
  go_wp2_with fail
  refine hOp.mono ?_; rintro e w3 ⟨rfl, hb3⟩
  have HK3 : Hid _ := HK0.out.next hb3 rfl
  clear hOp hb3 q0 k0 HK0
  go_wp2_with fail
  go_loopw [11, 12] (fun uu oo wr => ∃ v : Nat, t ≤ v ∧ v ≤ u ∧ uu = .int .i64 v ∧ oo = .bool (openB c i d v) ∧ Kept w wr w.heap.size (cfgA c ⟨wa, wl, wc, sa, sl, sc, some ⟨tb, toff, none⟩, tl, tc⟩)) (fun uu _ _ => u - (intOf uu).toNat)
  case atStart => exact ⟨t, Nat.le_refl _, htu, rfl, rfl, HK3.out⟩
  case round =>
    obtain ⟨v, h1, h2, rfl, rfl, k⟩ := hrel
    by_cases hv : v = u
    · subst hv
      rw [HO.out]
      have HK : Hid _ := k
      clear k
      go_wp2
      go_ret
      exact ⟨rfl, HK.out.below⟩
    · have hvn := HN.out (v : Int) (by omega) (by omega)
      rw [hvn]
      have hOp := kopen_any c _ i d ((v + 1 : Nat) : Int) wr (HH.out.below k.below (Nat.le_refl _)) HZ.out hi (by omega) (by omega)
      have e1 : ((v + 1 : Nat) : Int) = (v : Int) + 1 := by omega
      rw [e1] at hOp
      have q := k.box
      have HK : Hid _ := k
      clear k hvn
      go_wp2_with fail
      refine hOp.mono ?_; rintro e w4 ⟨rfl, hb4⟩
      have HK4 : Hid _ := HK.out.next hb4 rfl
      clear hOp hb4 q
      go_wp2_with fail
      go_roundw
      case rel => exact ⟨v + 1, by omega, by omega, by go_num, by rw [e1], HK4.out⟩
      case measure => simp [intOf]; omega
end Go.Proofs.YtcmcfafhllpojaaGreat

namespace Go.Proofs.YtcmcfafhllpojaaGreat
open Go.RowKit

theorem ev_cells {w : World} {g : Nat} {a b c d e f : Int} (h : Row w g [.int .i64 a, .int .i64 b, .int .i64 c, .int .i64 d, .int .i64 e, .int .i64 f] 88) :
    w.cell? ⟨g, 0, none⟩ = some (.int .i64 a) ∧ w.cell? ⟨g, 1, none⟩ = some (.int .i64 b) ∧ w.cell? ⟨g, 2, none⟩ = some (.int .i64 c) ∧ w.cell? ⟨g, 3, none⟩ = some (.int .i64 d) ∧ w.cell? ⟨g, 4, none⟩ = some (.int .i64 e) ∧ w.cell? ⟨g, 5, none⟩ = some (.int .i64 f) :=
  ⟨h.cell 0, h.cell 1, h.cell 2, h.cell 3, h.cell 4, h.cell 5⟩

set_option maxRecDepth 100000 in
set_option maxHeartbeats 1600000 in
theorem kserved_any (e : Ev) (w : World) :
    Calls Tryz.prog 76 #[.agg (eventL e).toArray] w fun r w' => r = .returned (.bool (servedB e)) ∧ Below w.heap.size w w' := by
  obtain ⟨ec, ei, ev, ef, eis, edn⟩ := e
  have hb : Below w.heap.size w (w.alloc (.cells #[.int .i64 ec, .int .i64 ei, .int .i64 ev, .int .i64 ef, .int .i64 eis, .int .i64 edn] 88)) := (Below.refl _ _).alloc (Nat.le_refl _) _
  have HR : Row (w.alloc (.cells #[.int .i64 ec, .int .i64 ei, .int .i64 ev, .int .i64 ef, .int .i64 eis, .int .i64 edn] 88)) w.heap.size [.int .i64 ec, .int .i64 ei, .int .i64 ev, .int .i64 ef, .int .i64 eis, .int .i64 edn] 88 := heap_alloc_new w _
  obtain ⟨_, _, _, c3, c4, c5⟩ := ev_cells HR
  have HB : Hid _ := hb
  have HS : Hid (servedB ⟨ec, ei, ev, ef, eis, edn⟩ = ((ef == 0) && decide (eis < edn))) := by
    unfold Hid servedB
    by_cases a : ef = 0 <;> by_cases b : eis < edn <;> simp [a, b]
  clear hb HR
  by_cases a : ef = 0
  · subst a
    have HS2 : Hid (servedB ⟨ec, ei, ev, 0, eis, edn⟩ = decide (eis < edn)) := by unfold Hid; rw [HS.out]; rfl
    go_enter Tryz.func76, Tryz.ntmps76
    go_wp2_with fail
    try go_quiet (fail)
    go_wp2
    go_ret
    exact ⟨ret_bool HS2.out.symm, by first | exact HB.out | exact below_drewN HB.out _⟩
  · have ab : (ef == 0) = false := by simp [a]
    have HS2 : Hid (servedB ⟨ec, ei, ev, ef, eis, edn⟩ = false) := by unfold Hid; rw [HS.out, ab]; rfl
    go_enter Tryz.func76, Tryz.ntmps76
    go_wp2_with fail
    try go_quiet (fail)
    go_wp2
    go_ret
    exact ⟨ret_bool HS2.out.symm, by first | exact HB.out | exact below_drewN HB.out _⟩
set_option maxRecDepth 100000 in
set_option maxHeartbeats 1600000 in
theorem kbehind_any (a b : Ev) (w : World) (h : Behind a b) :
    Calls Tryz.prog 39 #[.agg (eventL a).toArray, .agg (eventL b).toArray] w fun r w' => r = .returned (.bool true) ∧ Below w.heap.size w w' := by
  have hSa := kserved_any a
  have hSb := kserved_any b
  unfold Behind at h
  obtain ⟨ac, ai, av, af, ais, adn⟩ := a
  obtain ⟨bc, bi, bv, bf, bis, bdn⟩ := b
  have hb : Below w.heap.size w ((w.alloc (.cells #[.int .i64 ac, .int .i64 ai, .int .i64 av, .int .i64 af, .int .i64 ais, .int .i64 adn] 88)).alloc (.cells #[.int .i64 bc, .int .i64 bi, .int .i64 bv, .int .i64 bf, .int .i64 bis, .int .i64 bdn] 88)) := ((Below.refl _ _).alloc (Nat.le_refl _) _).alloc (by simp) _
  have RA : Row ((w.alloc (.cells #[.int .i64 ac, .int .i64 ai, .int .i64 av, .int .i64 af, .int .i64 ais, .int .i64 adn] 88)).alloc (.cells #[.int .i64 bc, .int .i64 bi, .int .i64 bv, .int .i64 bf, .int .i64 bis, .int .i64 bdn] 88)) w.heap.size [.int .i64 ac, .int .i64 ai, .int .i64 av, .int .i64 af, .int .i64 ais, .int .i64 adn] 88 := Row.alloc (heap_alloc_new w _) _
  have RB : Row ((w.alloc (.cells #[.int .i64 ac, .int .i64 ai, .int .i64 av, .int .i64 af, .int .i64 ais, .int .i64 adn] 88)).alloc (.cells #[.int .i64 bc, .int .i64 bi, .int .i64 bv, .int .i64 bf, .int .i64 bis, .int .i64 bdn] 88)) (w.heap.size + 1) [.int .i64 bc, .int .i64 bi, .int .i64 bv, .int .i64 bf, .int .i64 bis, .int .i64 bdn] 88 := by
    have := heap_alloc_new (w.alloc (.cells #[.int .i64 ac, .int .i64 ai, .int .i64 av, .int .i64 af, .int .i64 ais, .int .i64 adn] 88)) (.cells #[.int .i64 bc, .int .i64 bi, .int .i64 bv, .int .i64 bf, .int .i64 bis, .int .i64 bdn] 88)
    rw [World.size_alloc] at this
    exact this
  have hsz : ((w.alloc (.cells #[.int .i64 ac, .int .i64 ai, .int .i64 av, .int .i64 af, .int .i64 ais, .int .i64 adn] 88)).alloc (.cells #[.int .i64 bc, .int .i64 bi, .int .i64 bv, .int .i64 bf, .int .i64 bis, .int .i64 bdn] 88)).heap.size = w.heap.size + 2 := by simp
  simp only at h
  go_enter Tryz.func39, Tryz.ntmps39
  obtain ⟨a0, a1, a2, a3, a4, a5⟩ := ev_cells RA
  obtain ⟨b0, b1, b2, b3, b4, b5⟩ := ev_cells RB
  have HB : Hid _ := hb
  have HRA : Hid (Row ((w.alloc (.cells #[.int .i64 ac, .int .i64 ai, .int .i64 av, .int .i64 af, .int .i64 ais, .int .i64 adn] 88)).alloc (.cells #[.int .i64 bc, .int .i64 bi, .int .i64 bv, .int .i64 bf, .int .i64 bis, .int .i64 bdn] 88)) w.heap.size [.int .i64 ac, .int .i64 ai, .int .i64 av, .int .i64 af, .int .i64 ais, .int .i64 adn] 88) := RA
  have HRB : Hid (Row ((w.alloc (.cells #[.int .i64 ac, .int .i64 ai, .int .i64 av, .int .i64 af, .int .i64 ais, .int .i64 adn] 88)).alloc (.cells #[.int .i64 bc, .int .i64 bi, .int .i64 bv, .int .i64 bf, .int .i64 bis, .int .i64 bdn] 88)) (w.heap.size + 1) [.int .i64 bc, .int .i64 bi, .int .i64 bv, .int .i64 bf, .int .i64 bis, .int .i64 bdn] 88) := RB
  clear hb RA RB
  rcases h with h | ⟨h1, h2, h3⟩
  · have hne : (adn != bdn) = true := by simp; omega
    clear hSa hSb
    go_wp2_with fail
    try go_quiet (fail)
    go_wp2
    try go_quiet (fail)
    try go_wp2
    go_ret
    exact ⟨rfl, by first | exact HB.out | exact below_drewN HB.out _ | exact below_drewN (below_drewN HB.out _) _⟩
  · subst h1
    have sa := hSa ((w.alloc (.cells #[.int .i64 ac, .int .i64 ai, .int .i64 av, .int .i64 af, .int .i64 ais, .int .i64 adn] 88)).alloc (.cells #[.int .i64 bc, .int .i64 bi, .int .i64 bv, .int .i64 bf, .int .i64 bis, .int .i64 adn] 88))
    clear hSa
    go_wp2_with fail
    refine sa.mono ?_; rintro r w1 ⟨rfl, hb1⟩
    have B1 := below_step HB.out hb1 rfl
    have A1 : Row w1 w.heap.size [.int .i64 ac, .int .i64 ai, .int .i64 av, .int .i64 af, .int .i64 ais, .int .i64 adn] 88 := Row.below HRA.out hb1 (by simp; omega)
    have C1 : Row w1 (w.heap.size + 1) [.int .i64 bc, .int .i64 bi, .int .i64 bv, .int .i64 bf, .int .i64 bis, .int .i64 adn] 88 := Row.below HRB.out hb1 (by simp)
    have sb := hSb w1
    clear sa a0 a1 a2 a3 a4 a5 b0 b1 b2 b3 b4 b5 hSb
    obtain ⟨b0, b1, b2, b3, b4, b5⟩ := ev_cells C1
    go_wp2_with fail
    refine sb.mono ?_; rintro r w2 ⟨rfl, hb2⟩
    have HB2 : Hid _ := below_step B1 hb2 rfl
    have A2 : Row w2 w.heap.size [.int .i64 ac, .int .i64 ai, .int .i64 av, .int .i64 af, .int .i64 ais, .int .i64 adn] 88 := Row.below A1 hb2 A1.lt
    have C2 : Row w2 (w.heap.size + 1) [.int .i64 bc, .int .i64 bi, .int .i64 bv, .int .i64 bf, .int .i64 bis, .int .i64 adn] 88 := Row.below C1 hb2 C1.lt
    clear sb b0 b1 b2 b3 b4 b5
    have a0 := (ev_cells A2).1
    have b0 := (ev_cells C2).1
    have lA := A2.lt
    have lC := C2.lt
    rw [h2]
    clear A1 C1 A2 C2 B1 hb1 hb2 h2
    cases hs : servedB ⟨ac, ai, av, af, ais, adn⟩ with
    | true =>
      go_wp2_with fail
      try go_quiet (fail)
      try go_wp2
      go_ret
      exact ⟨rfl, by first | exact HB2.out | exact below_drewN HB2.out _⟩
    | false =>
      have hlt : ac < bc := by
        rcases h3 with q | q
        · rw [hs] at q; cases q
        · exact q
      go_wp2_with fail
      try go_quiet (fail)
      try go_wp2
      go_ret
      exact ⟨rfl, by first | exact HB2.out | exact below_drewN HB2.out _⟩
end Go.Proofs.YtcmcfafhllpojaaGreat
