/-
  The walk of the call walls.Check.
-/
import Derived.Test.YtcmcfafhllpojaaGreatConf5
namespace Go.Proofs.YtcmcfafhllpojaaGreat
open Go.RowKit

set_option maxHeartbeats 400000 in
theorem Check_any (c : Cf) (s : Sl) (w : World) (h : CfgAt w c s) :
    Calls Tryz.prog 86 #[cfgV c s] w fun e w' => e = .returned (.int .i64 (chk c)) ∧ Below w.heap.size w w' := by
  have k0 := Kept.start w (cfgA c s) 29
  go_enter Tryz.func86, Tryz.ntmps86
  go_wp2_with fail
  refine (check_any c s _ (h.below k0.below (Nat.le_refl _))).mono ?_; rintro e w1 ⟨rfl, hb1⟩
  go_wp2
  go_ret
  exact ⟨rfl, (k0.next hb1 rfl).below⟩
end Go.Proofs.YtcmcfafhllpojaaGreat
