/-
  The walks of package config: Check, its third part.
-/
import Derived.Test.YtcmcfafhllpojaaGreatConf2
namespace Go.Proofs.YtcmcfafhllpojaaGreat
open Go.RowKit

theorem wrap_sub1 {d : Int} (h1 : 1 ≤ d) (h2 : d ≤ 4) : IntKind.i64.wrap (d - 1) = d - 1 := by
  have : d = 1 ∨ d = 2 ∨ d = 3 ∨ d = 4 := by omega
  rcases this with rfl | rfl | rfl | rfl <;> rfl

set_option maxHeartbeats 400000 in
theorem turns_any (c : Cf) (s : Sl) (w : World) (h : CfgAt w c s) (hd1 : 1 ≤ c.domains) (hd2 : c.domains ≤ 4) :
    Calls Tryz.prog 70 #[cfgV c s] w fun e w' => e = .returned (.bool (turnsB c)) ∧ Below w.heap.size w w' := by
  obtain ⟨wa, wl, wc, sa, sl, sc, ta, tl, tc⟩ := s
  have hg : Grid (w.alloc (.cells (cfgA c ⟨wa, wl, wc, sa, sl, sc, ta, tl, tc⟩) 29)) ta tl tc c.turns := h.turns.alloc (.cells (cfgA c ⟨wa, wl, wc, sa, sl, sc, ta, tl, tc⟩) 29)
  have hlen := hg.hlen
  have hle := hg.hle
  have hm := hg.hmax
  unfold maxLen at hm
  have HL : Hid (c.turns.length = tl) := hlen
  clear hlen
  rcases Bool.eq_false_or_eq_true ((tl : Int) != c.cores) with hn | hn
  · go_enter Tryz.func70, Tryz.ntmps70
    go_wp2
    go_ret
    exact ⟨ret_bool (by simp only [turnsB, HL.out]; simp at hn; simp [hn]), (Below.refl _ _).alloc (Nat.le_refl _) _⟩
  · go_enter Tryz.func70, Tryz.ntmps70
    go_wp2
    go_loopw [3] (fun i w' => ∃ k n : Nat, k ≤ tl ∧ i = .int .i64 k ∧ (c.turns.take k).all (fun l => listB l 4 (-1) (c.domains - 1)) = true ∧ w' = (w.alloc (.cells (cfgA c ⟨wa, wl, wc, sa, sl, sc, ta, tl, tc⟩) 29)).drewN n) (fun i _ => tl - (intOf i).toNat)
    case atStart => exact ⟨0, 0, by omega, rfl, rfl, rfl⟩
    case round =>
      obtain ⟨k, n, hk, rfl, hall, hwr⟩ := hrel
      have HA : Hid _ := hall
      clear hall
      have HW : Hid _ := hwr
      have c10 : wr.cell? ⟨w.heap.size, 10, none⟩ = some (.slice ta tl tc) := by rw [hwr]; simp
      have c1 : wr.cell? ⟨w.heap.size, 1, none⟩ = some (.int .i64 c.domains) := by rw [hwr]; simp
      have hgr : Grid wr ta tl tc c.turns := by rw [hwr]; exact hg.drewN n
      clear hwr
      by_cases hlt : k < tl
      · obtain ⟨b, off, ia, il, ic, rfl, hc, hi⟩ := hgr.hat k hlt
        have HS : Hid _ := all_snoc (fun l => listB l 4 (-1) (c.domains - 1)) c.turns [] k (by rw [HL.out]; exact hlt)
        have hrow := all_false_of (fun l => listB l 4 (-1) (c.domains - 1)) c.turns [] k (by rw [HL.out]; exact hlt)
        have HR : Hid _ := hrow
        clear hrow
        generalize c.turns.getD k [] = row at *
        rcases Bool.eq_false_or_eq_true (listB row 4 (-1) (c.domains - 1)) with hx | hx
        · have HX : Hid _ := hx
          clear hx
          go_wp2
          go_quiet ((go_at_call 127; rw [wrap_sub1 hd1 hd2]; exact Calls.quiet_of_same (list_any _ _ _ row _ _ _ _ (hi.drewN _))))
          rw [HX.out]
          go_wp2
          go_roundw
          case rel => exact ⟨k + 1, n + nq, by omega, by go_num, by rw [HS.out, HA.out, HX.out]; rfl, by rw [HW.out, World.drewN_drewN]⟩
          case measure => simp [intOf]; omega
        · have HX : Hid _ := hx
          clear hx
          go_wp2
          go_quiet ((go_at_call 127; rw [wrap_sub1 hd1 hd2]; exact Calls.quiet_of_same (list_any _ _ _ row _ _ _ _ (hi.drewN _))))
          rw [HX.out]
          go_wp2
          go_ret
          refine ⟨ret_bool ?_, ?_⟩
          · simp [turnsB, HR.out HX.out]
          · rw [HW.out]; exact below_drewN (below_drewN ((Below.refl _ _).alloc (Nat.le_refl _) _) _) _
      · go_wp2
        go_ret
        refine ⟨ret_bool ?_, by rw [HW.out]; exact below_drewN ((Below.refl _ _).alloc (Nat.le_refl _) _) _⟩
        have e := HL.out
        have := HA.out
        rw [List.take_of_length_le (by rw [e]; omega)] at this
        simp at hn
        simp only [turnsB, this, e, hn]
        simp
end Go.Proofs.YtcmcfafhllpojaaGreat
