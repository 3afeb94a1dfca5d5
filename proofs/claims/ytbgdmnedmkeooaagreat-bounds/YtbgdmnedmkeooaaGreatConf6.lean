/-
  The walk of the call walls.Check.
-/
import Derived.Test.YtbgdmnedmkeooaaGreatConf5
namespace Go.Proofs.YtbgdmnedmkeooaaGreat
open Go.RowKit

set_option maxHeartbeats 400000 in
theorem Check_any (c : Cf) (s : Sl) (w : World) (h : CfgAt w c s) :
    Calls Tryz.prog 34 #[cfgV c s] w fun e w' => e = .returned (.int .i64 (chk c)) ∧ Below w.heap.size w w' := by
  have k0 := Kept.start w (cfgA c s) 43
  go_enter Tryz.func34, Tryz.ntmps34
  go_wp2_with fail
  refine (check_any c s _ (h.below k0.below (Nat.le_refl _))).mono ?_; rintro e w1 ⟨rfl, hb1⟩
  go_wp2
  go_ret
  exact ⟨rfl, (k0.next hb1 rfl).below⟩
end Go.Proofs.YtbgdmnedmkeooaaGreat
