/-
  KohA, KohT
-/
import Derived.Test.YtcmcfafhllpojabGreatClPackAM
import Derived.Test.YtcmcfafhllpojabGreatClPackAT
import Derived.Deep.QuietTactic
import Derived.BigQuiet
import Derived.Test.YtcmcfafhllpojabGreatClPackU
import Derived.Test.YtcmcfafhllpojabGreatClPackA
namespace Go.Proofs.YtcmcfafhllpojabGreat
open Go.RowKit

set_option maxRecDepth 100000 in
set_option maxHeartbeats 1600000 in
theorem klines_any (x : Cs) (l : Cl) (hz : chk x.c = 0) (w : World) :
    Calls Tryz.prog 60 #[csV x l] w fun e w' => e = .returned (.int .i64 ((x.c.priv + x.c.shared) / x.c.line)) ∧ Below w.heap.size w w' := by
  have hN := nm_of hz
  have sb := shape_bounds (chk_zero hz).1
  have hb0 : Below w.heap.size w (w.alloc (.cells (csA x l) 33)) := (Below.refl _ _).alloc (Nat.le_refl _) _
  have hR0 : Row (w.alloc (.cells (csA x l) 33)) w.heap.size (csL x l) 33 := heap_alloc_new w _
  have p0 : 0 ≤ x.c.priv + x.c.shared := by omega
  have p1 : x.c.priv + x.c.shared ≤ 96 := by omega
  have l0 : 0 < x.c.line := by have := hN.ln; have := hN.l0; omega
  have q0 : 0 ≤ (x.c.priv + x.c.shared) / x.c.line := Int.ediv_nonneg p0 (by omega)
  have q1 : (x.c.priv + x.c.shared) / x.c.line ≤ x.c.priv + x.c.shared := Int.ediv_le_self _ p0
  have hw1 : IntKind.i64.wrap (x.c.priv + x.c.shared) = x.c.priv + x.c.shared := by rw [IntKind.wrap_i64]; omega
  have hw2 : IntKind.i64.wrap ((x.c.priv + x.c.shared) / x.c.line) = (x.c.priv + x.c.shared) / x.c.line := by rw [IntKind.wrap_i64]; omega
  obtain ⟨x0, x1, x2, x3, x4, x5, x6, x7, x8, x9, x10, x11, x12⟩ := cs_cells hR0
  have lr := hR0.lt
  have HB : Hid _ := hb0
  clear hb0 hR0 sb hN hz
  go_enter Tryz.func60, Tryz.ntmps60
  go_wp2_with fail
  try go_quiet (fail)
  try go_wp2
  go_ret
  exact ⟨rfl, by first | exact HB.out | exact HB.out.trans ⟨rfl, rfl, rfl, Nat.le_refl _, fun _ _ => rfl⟩⟩

set_option maxRecDepth 100000 in
set_option maxHeartbeats 1600000 in
theorem kcommon_any (x : Cs) (l : Cl) (hz : chk x.c = 0) (y : Nat) (hy : y ≤ 1000) (w : World) :
    Calls Tryz.prog 61 #[csV x l, .int .i64 y] w fun e w' => e = .returned (.bool (decide (x.c.priv ≤ (y : Int) * x.c.line))) ∧ Below w.heap.size w w' := by
  have hN := nm_of hz
  have hl4 := hN.l4
  have hln := hN.ln
  have hb0 : Below w.heap.size w (w.alloc (.cells (csA x l) 33)) := (Below.refl _ _).alloc (Nat.le_refl _) _
  have hR0 : Row (w.alloc (.cells (csA x l) 33)) w.heap.size (csL x l) 33 := heap_alloc_new w _
  have m0 : 0 ≤ (y : Int) * x.c.line := Int.mul_nonneg (by omega) (by omega)
  have m1 : (y : Int) * x.c.line ≤ 1000 * 4 := Int.mul_le_mul (by omega) (by omega) (by omega) (by omega)
  have hw1 : IntKind.i64.wrap ((y : Int) * x.c.line) = (y : Int) * x.c.line := by rw [IntKind.wrap_i64]; omega
  obtain ⟨x0, x1, x2, x3, x4, x5, x6, x7, x8, x9, x10, x11, x12⟩ := cs_cells hR0
  have lr := hR0.lt
  have HB : Hid _ := hb0
  clear hb0 hR0 hN hz hl4 hln
  go_enter Tryz.func61, Tryz.ntmps61
  go_wp2_with fail
  try go_quiet (fail)
  try go_wp2
  go_ret
  exact ⟨rfl, by first | exact HB.out | exact HB.out.trans ⟨rfl, rfl, rfl, Nat.le_refl _, fun _ _ => rfl⟩⟩
end Go.Proofs.YtcmcfafhllpojabGreat

namespace Go.Proofs.YtcmcfafhllpojabGreat
open Go.RowKit

set_option maxRecDepth 100000 in
set_option maxHeartbeats 1600000 in
theorem kturn_any (c : Cf) (s : Sl) (i : Nat) (t : Int) (w : World) (h : CfgAt w c s) (hz : chk c = 0) (hi : (i : Int) < c.cores) (t0 : 0 ≤ t) (tm : t ≤ 1000000) :
    Calls Tryz.prog 115 #[cfgV c s, .int .i64 i, .int .i64 t] w fun e w' => e = .returned (.int .i64 (turnZ c i t)) ∧ Below w.heap.size w w' := by
  have k0 := Kept.start w (cfgA c s) 29
  have htl := h.turns.hlen
  have htle := h.turns.hle
  have htm := h.turns.hmax
  unfold maxLen at htm
  obtain ⟨c1, c2, d1, d2, s1, s2, t1, t2, w0, w1, f1, f2, q1, q2, tl, each⟩ := right_of hz
  have R := right_of hz
  have tl' : (s.tl : Int) = c.cores := by rw [← htl]; exact tl
  have HTL : Hid _ := htl
  have tl3 : s.tl ≤ 3 := by omega
  have hi2 : i < s.tl := by omega
  obtain ⟨b, off, ia, il, ic, hta, hc, hints⟩ := h.turns.hat i hi2
  have hrow := grid_row R (show i < c.turns.length by rw [HTL.out]; exact hi2)
  have hlen := hints.hlen
  have ile := hints.hle
  have ilm := hints.hmax
  unfold maxLen at ilm
  have hil : il ≤ 4 := by omega
  have hil0 : 1 ≤ il := by omega
  have HBD : b < w.heap.size := cell_lt hc
  obtain ⟨wa, wl, wc, sa, sl, sc, ta, tl, tc⟩ := s
  dsimp only at *
  subst hta
  have hz2 : turnZ c i t = (c.turns.getD i []).getD (t / c.quantum % ((c.turns.getD i []).length : Int)).toNat 0 := rfl
  rw [hlen] at hz2
  obtain ⟨j, hj, hjl⟩ := mod_nat (a := t / c.quantum) (n := il) (by omega)
  rw [hj, Int.toNat_natCast] at hz2
  obtain ⟨b2, off2, hia, hc2⟩ := hints.hat j hjl
  subst hia
  have HBD2 : b2 < w.heap.size := cell_lt hc2
  have y1 : 0 < c.quantum := by omega
  have y2 : 0 ≤ t / c.quantum := Int.ediv_nonneg t0 (by omega)
  have y3 : t / c.quantum ≤ t := Int.ediv_le_self _ t0
  have i1 : (0 : Int) < (il : Int) := by omega
  have iz : ((il : Int) == 0) = false := by simp; omega
  rw [hz2]
  generalize (c.turns.getD i []).getD j 0 = v at *
  clear hz hz2 hlen hrow tl' htl each
  go_enter Tryz.func115, Tryz.ntmps115
  go_wp2
  go_ret
  exact ⟨rfl, k0.below⟩

end Go.Proofs.YtcmcfafhllpojabGreat
