/-
  The walks of package config: quantumRight, Check.
-/
import Derived.Test.YtcmcfafhllpojaaGreatClPackH
namespace Go.Proofs.YtcmcfafhllpojaaGreat
open Go.RowKit

set_option maxHeartbeats 800000 in
theorem quantum_any (c : Cf) (s : Sl) (w : World) (h : CfgAt w c s) (h1 : 1 ≤ c.cores) (h2 : c.cores ≤ 3) (h3 : 1 ≤ c.slot) (h4 : c.slot ≤ 4) (h5 : c.slots.length ≤ 8) (h6 : 1 ≤ c.near) :
    Calls Tryz.prog 71 #[cfgV c s] w fun e w' => e = .returned (.bool (quantumB c)) ∧ Below w.heap.size w w' := by
  obtain ⟨b1, b2⟩ := worst_bd h1 h2 h3 h4 h5
  rcases Bool.eq_false_or_eq_true (withinB c.flush c.near 16) with hf | hf
  · have hf' := (within_iff _ _ _).1 hf
    have h7 : 1 ≤ c.flush := by omega
    have h8 : c.flush ≤ 16 := by omega
    clear hf'
    go_enter Tryz.func71, Tryz.ntmps71
    go_wp2_with (go_at_call 124; refine (within_any _ _ _ _).mono ?_; rintro e w' ⟨rfl, rfl⟩)
    go_region_with (go_at_call 35; refine (worst_any c s _ (by exact (h.alloc _).drew) h1 h2 h3 h4 h5).mono ?_; rintro e w1 ⟨rfl, hb⟩; obtain ⟨hc, hfz, hz⟩ := bcellN (w.heap.size + 1) hb (by simp))
    all_goals go_wp2_with (go_at_call 124; refine (within_any _ _ _ _).mono ?_; rintro e w' ⟨rfl, rfl⟩)
    all_goals go_ret
    all_goals exact ⟨ret_bool (by simp [quantumB, hf]), (((Below.refl _ _).alloc (Nat.le_refl _) _).drew).trans (hb.mono (by simp))⟩
  · go_enter Tryz.func71, Tryz.ntmps71
    go_wp2_with (go_at_call 124; refine (within_any _ _ _ _).mono ?_; rintro e w' ⟨rfl, rfl⟩)
    go_ret
    exact ⟨ret_bool (by simp [quantumB, hf]), (Below.refl _ _).alloc (Nat.le_refl _) _⟩
end Go.Proofs.YtcmcfafhllpojaaGreat
