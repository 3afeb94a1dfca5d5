/-
  The contract of Victim.
-/
import Derived.Test.YtcmcfafhllpojaaGreatProg
import Derived.Test.YtcmcfafhllpojaaGreatMathT
namespace Go.Proofs.YtcmcfafhllpojaaGreat
open Go.RowKit

/-- The contract of Victim. -/
def VictimC : Prop := ∀ (n : Int) (sa : Option Addr) (len cap : Nat) (xs : List Int) (w : World), Ints w sa len cap xs →
    Calls Tryz.prog 80 #[.int .i64 n, .slice sa len cap] w fun e w' => e = .returned (.tuple #[.int .i64 (victimN n xs), .int .i64 (victimE n xs)]) ∧ Below w.heap.size w w'
end Go.Proofs.YtcmcfafhllpojaaGreat
