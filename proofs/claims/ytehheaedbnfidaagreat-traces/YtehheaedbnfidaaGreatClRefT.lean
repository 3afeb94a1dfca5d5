/-
  The walks of wallsref's turn, open, serves, wait.
-/
import Derived.Test.YtehheaedbnfidaaGreatClPackBG
import Derived.Test.YtehheaedbnfidaaGreatClPackW
import Derived.Test.YtehheaedbnfidaaGreatClPackA
import Derived.Deep.QuietTactic
import Derived.BigQuiet
namespace Go.Proofs.YtehheaedbnfidaaGreat
open Go.RowKit

set_option maxRecDepth 100000 in
set_option maxHeartbeats 800000 in
theorem rturn_any (c : Cf) (s : Sl) (i : Nat) (t : Int) (w : World) (h : CfgAt w c s) (R : Right c) (hi : (i : Int) < c.cores) (t0 : 0 ≤ t) (t1 : t ≤ 100000) :
    Calls Tryz.prog 80 #[cfgV c s, .int .i64 i, .int .i64 t] w fun e w' => e = .returned (.int .i64 (turnZ c i t)) ∧ Below w.heap.size w w' := by
  have k0 := Kept.start w (cfgA c s) 43
  obtain ⟨wa, wl, wc, sa, sl, sc, ta, tl, tc⟩ := s
  have htl : (tl : Int) = c.cores := by
    have e1 := R.tl
    have e2 := h.turns.hlen
    simp only at e2
    omega
  have htle := h.turns.hle
  have htm := h.turns.hmax
  unfold maxLen at htm
  have hit : i < tl := by omega
  obtain ⟨b, off, ia, il, ic, hta, hc, hints⟩ := h.turns.hat i hit
  simp only at hta
  subst hta
  have hrl := grid_row R (show i < c.turns.length by have := h.turns.hlen; simp only at this; omega)
  have hlen := hints.hlen
  have ile := hints.hle
  have hz : turnZ c i t = (c.turns.getD i []).getD (t / c.quantum % ((c.turns.getD i []).length : Int)).toNat 0 := rfl
  rw [hlen] at hz
  obtain ⟨j, hj, hjl⟩ := mod_nat (a := t / c.quantum) (n := il) (by omega)
  rw [hj, Int.toNat_natCast] at hz
  obtain ⟨b2, off2, hia, hc2⟩ := hints.hat j hjl
  subst hia
  have HZ : Hid _ := hz
  generalize (c.turns.getD i []).getD j 0 = v at *
  have HBD : b < w.heap.size := cell_lt hc
  have HBD2 : b2 < w.heap.size := cell_lt hc2
  have q1 := R.q1
  have q2 := R.q2
  have w0 := R.w0
  have f1 := R.f1
  have y1 : 0 < c.quantum := by omega
  have y2 : 0 ≤ t / c.quantum := Int.ediv_nonneg t0 (by omega)
  have y3 : t / c.quantum ≤ t := Int.ediv_le_self _ t0
  have i1 : (0 : Int) < (il : Int) := by omega
  clear hz hlen hrl htl
  go_enter Tryz.func80, Tryz.ntmps80
  go_wp2
  go_ret
  exact ⟨ret_int HZ.out.symm, k0.below⟩

set_option maxRecDepth 100000 in
set_option maxHeartbeats 800000 in
theorem ropen_any (c : Cf) (s : Sl) (i : Nat) (d t : Int) (w : World) (h : CfgAt w c s) (R : Right c) (hi : (i : Int) < c.cores) (t0 : 0 ≤ t) (t1 : t ≤ 100000) :
    Calls Tryz.prog 81 #[cfgV c s, .int .i64 i, .int .i64 d, .int .i64 t] w fun e w' => e = .returned (.bool (openB c i d t)) ∧ Below w.heap.size w w' := by
  have k0 := Kept.start w (cfgA c s) 43
  have q1 := R.q1
  have q2 := R.q2
  have w0 := R.w0
  have w1 := R.w1
  have f1 := R.f1
  have f2 := R.f2
  have y1 : 0 < c.quantum := by omega
  have y0 : ¬ c.quantum = 0 := by omega
  rcases Bool.eq_false_or_eq_true (turnZ c i t == d) with a1 | a1
  · by_cases a2 : 0 ≤ d
    · have HB : Hid (openB c i d t = decide (t % c.quantum < c.quantum - c.flush - worstZ c)) := by
        unfold Hid openB; rw [a1, decide_eq_true a2]; rfl
      have a2' : decide (0 ≤ d) = true := by simpa using a2
      go_enter Tryz.func81, Tryz.ntmps81
      go_wp2_with fail
      refine (rworst_any c s _ (h.below k0.below (Nat.le_refl _)) R.c1 R.c2 R.s1 R.s2 R.t2).mono ?_; rintro e w1 ⟨rfl, hb1⟩; have k1 := k0.next hb1 rfl; have p1 := k1.box
      go_wp2_with fail
      refine (rturn_any c s i t _ (h.below k1.below (Nat.le_refl _)) R hi t0 t1).mono ?_; rintro e w2 ⟨rfl, hb2⟩; have k2 := k1.next hb2 rfl; have p2 := k2.box
      clear p1
      have c11 : w2.cell? ⟨w.heap.size, 11, none⟩ = some (.int .i64 c.quantum) := p2 11
      have c12 : w2.cell? ⟨w.heap.size, 12, none⟩ = some (.int .i64 c.flush) := p2 12
      go_wp2_with fail
      go_quiet (fail)
      go_wp2
      go_ret
      exact ⟨ret_bool HB.out.symm, below_drewN k2.below _⟩
    · have HB : Hid (openB c i d t = false) := by
        unfold Hid openB; rw [decide_eq_false a2]; simp
      have a2' : decide (0 ≤ d) = false := by simpa using a2
      go_enter Tryz.func81, Tryz.ntmps81
      go_wp2_with fail
      refine (rworst_any c s _ (h.below k0.below (Nat.le_refl _)) R.c1 R.c2 R.s1 R.s2 R.t2).mono ?_; rintro e w1 ⟨rfl, hb1⟩; have k1 := k0.next hb1 rfl; have p1 := k1.box
      go_wp2_with fail
      refine (rturn_any c s i t _ (h.below k1.below (Nat.le_refl _)) R hi t0 t1).mono ?_; rintro e w2 ⟨rfl, hb2⟩; have k2 := k1.next hb2 rfl; have p2 := k2.box
      clear p1
      go_wp2_with fail
      go_quiet (fail)
      go_wp2
      go_ret
      exact ⟨ret_bool HB.out.symm, below_drewN k2.below _⟩
  · have HB : Hid (openB c i d t = false) := by
      unfold Hid openB; rw [a1]; rfl
    go_enter Tryz.func81, Tryz.ntmps81
    go_wp2_with fail
    refine (rworst_any c s _ (h.below k0.below (Nat.le_refl _)) R.c1 R.c2 R.s1 R.s2 R.t2).mono ?_; rintro e w1 ⟨rfl, hb1⟩; have k1 := k0.next hb1 rfl; have p1 := k1.box
    go_wp2_with fail
    refine (rturn_any c s i t _ (h.below k1.below (Nat.le_refl _)) R hi t0 t1).mono ?_; rintro e w2 ⟨rfl, hb2⟩; have k2 := k1.next hb2 rfl; have p2 := k2.box
    clear p1
    go_wp2_with fail
    go_quiet (fail)
    go_wp2
    go_ret
    exact ⟨ret_bool HB.out.symm, below_drewN k2.below _⟩
end Go.Proofs.YtehheaedbnfidaaGreat
