/-
  The contract of Wait.
-/
import Derived.Test.YtcmcfafhllpojaaProg
import Derived.Test.YtcmcfafhllpojaaMathT
namespace Go.Proofs.Ytcmcfafhllpojaa
open Go.RowKit

/-- The contract of Wait. -/
def WaitC : Prop := ∀ (c : Cf) (s : Sl) (d t : Int) (w : World), CfgAt w c s →
    Calls Try.prog 8 #[cfgV c s, .int .i64 d, .int .i64 t] w fun e w' => e = .returned (.tuple #[.int .i64 (waitN c d t), .int .i64 (waitE c d t)]) ∧ Below w.heap.size w w'
end Go.Proofs.Ytcmcfafhllpojaa
