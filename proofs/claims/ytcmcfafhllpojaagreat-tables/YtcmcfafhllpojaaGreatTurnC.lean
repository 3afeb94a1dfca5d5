/-
  The contract of Turn.
-/
import Derived.Test.YtcmcfafhllpojaaGreatProg
import Derived.Test.YtcmcfafhllpojaaGreatMathT
namespace Go.Proofs.YtcmcfafhllpojaaGreat
open Go.RowKit

/-- The contract of Turn. -/
def TurnC : Prop := ∀ (c : Cf) (s : Sl) (core t : Int) (w : World), CfgAt w c s →
    Calls Tryz.prog 90 #[cfgV c s, .int .i64 core, .int .i64 t] w fun e w' => e = .returned (.tuple #[.int .i64 (turnD c core t), .bool (turnO c core t), .int .i64 (turnE c core t)]) ∧ Below w.heap.size w w'
end Go.Proofs.YtcmcfafhllpojaaGreat
