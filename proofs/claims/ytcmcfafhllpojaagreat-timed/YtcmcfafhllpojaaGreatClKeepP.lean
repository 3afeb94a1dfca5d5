/-
  The walks of wallskeep's right, serves, waits, many, over a contract of Wait.
-/
import Derived.Test.YtcmcfafhllpojaaGreatClPackU
import Derived.Test.YtcmcfafhllpojaaGreatClPackA
import Derived.Deep.QuietTactic
import Derived.BigQuiet
namespace Go.Proofs.YtcmcfafhllpojaaGreat
open Go.RowKit

set_option maxRecDepth 100000 in
set_option maxHeartbeats 800000 in
theorem kserves_any (c : Cf) (s : Sl) (d t : Int) (w : World) (h : CfgAt w c s) (R : Right c) (t0 : 0 ≤ t) (t1 : t ≤ 100000) :
    Calls Tryz.prog 73 #[cfgV c s, .int .i64 d, .int .i64 t] w fun e w' => e = .returned (.bool (servesB c d t)) ∧ Below w.heap.size w w' := by
  have k0 := Kept.start w (cfgA c s) 29
  obtain ⟨wa, wl, wc, sa, sl, sc, ta, tl, tc⟩ := s
  have s1 := R.s1
  have s2 := R.s2
  have hlen := h.slots.hlen
  have hle := h.slots.hle
  simp only at hlen hle
  have l1 := R.t1
  have l2 := R.t2
  rw [hlen] at l1 l2
  have y1 : 0 < c.slot := by omega
  have y0 : ¬ c.slot = 0 := by omega
  have y2 : 0 ≤ t / c.slot := Int.ediv_nonneg t0 (by omega)
  have y3 : t / c.slot ≤ t := Int.ediv_le_self _ t0
  have i1 : (0 : Int) < (sl : Int) := by omega
  have i0 : ¬ (sl : Int) = 0 := by omega
  have hz : servesB c d t = ((t % c.slot == c.slot - 1) && (c.slots.getD (t / c.slot % (sl : Int)).toNat 0 == d)) := by unfold servesB; rw [hlen]
  obtain ⟨j, hj, hjl⟩ := mod_nat (a := t / c.slot) (n := sl) (by omega)
  rw [hj, Int.toNat_natCast] at hz
  obtain ⟨b, off, hsa, hc⟩ := h.slots.hat j hjl
  simp only at hsa
  subst hsa
  have HBD : b < w.heap.size := cell_lt hc
  generalize c.slots.getD j 0 = v at *
  have hv : IntKind.i64.wrap (c.slot - 1) = c.slot - 1 := by rw [IntKind.wrap_i64]; omega
  have HL : Hid _ := hlen
  clear hlen
  rcases Bool.eq_false_or_eq_true (t % c.slot == c.slot - 1) with a1 | a1
  · have HZ : Hid (servesB c d t = (v == d)) := by unfold Hid; rw [hz, a1]; rfl
    have c8 : (w.alloc (.cells (cfgA c ⟨wa, wl, wc, some ⟨b, off, none⟩, sl, sc, ta, tl, tc⟩) 29)).cell? ⟨w.heap.size, 8, none⟩ = some (.int .i64 c.slot) := k0.box 8
    have c9 : (w.alloc (.cells (cfgA c ⟨wa, wl, wc, some ⟨b, off, none⟩, sl, sc, ta, tl, tc⟩) 29)).cell? ⟨w.heap.size, 9, none⟩ = some (.slice (some ⟨b, off, none⟩) sl sc) := k0.box 9
    have cv : (w.alloc (.cells (cfgA c ⟨wa, wl, wc, some ⟨b, off, none⟩, sl, sc, ta, tl, tc⟩) 29)).cell? ⟨b, off + j, none⟩ = some (.int .i64 v) := by rw [k0.below.cell (p := ⟨b, off + j, none⟩) HBD]; exact hc
    clear hz
    go_enter Tryz.func73, Tryz.ntmps73
    go_wp2_with fail
    generalize (w.alloc (.cells (cfgA c ⟨wa, wl, wc, some ⟨b, off, none⟩, sl, sc, ta, tl, tc⟩) 29)) = W at *
    go_quiet (fail)
    go_wp2
    go_ret
    exact ⟨ret_bool HZ.out.symm, below_drewN k0.below _⟩
  · have HZ : Hid (servesB c d t = false) := by unfold Hid; rw [hz, a1]; rfl
    have c8 : (w.alloc (.cells (cfgA c ⟨wa, wl, wc, some ⟨b, off, none⟩, sl, sc, ta, tl, tc⟩) 29)).cell? ⟨w.heap.size, 8, none⟩ = some (.int .i64 c.slot) := k0.box 8
    clear hz
    go_enter Tryz.func73, Tryz.ntmps73
    go_wp2_with fail
    generalize (w.alloc (.cells (cfgA c ⟨wa, wl, wc, some ⟨b, off, none⟩, sl, sc, ta, tl, tc⟩) 29)) = W at *
    go_quiet (fail)
    go_wp2
    go_ret
    exact ⟨ret_bool HZ.out.symm, below_drewN k0.below _⟩
end Go.Proofs.YtcmcfafhllpojaaGreat
