/-
  No cell of these rows narrows 'for every input' (looked for: loops, veiled, ifaces, maps, wideKeys, modest, calm, conditions, laid).
  DERIVED. THE GIVEN ROWS OF THIS SEAT. 8 by the template 'for every input the law returns true; each argument reads behind the call as it read before'; 0 by the template 'total and deterministic' (their statements: YtcmcfafhllpojaaGreatTotals.lean).
  GIVEN WITH THE SEED: the statements are not yours to turn. If you find one false, say at which input.
  Laid BY PROGRAM, IN A SANDBOX (cutbox-rows.mjs): the forced cells as the released guide's own fill.sh prints them over the translation 52d9361ae6c78f30… (all of the seat's roots in one cut). By AI agents, Wed Nov 11 2026. No macro, syntax, notation, axiom, sorry.
-/
import Derived.Test.YtcmcfafhllpojaaGreatChecked
import GoSem.Claim
import GoSem.ClaimJoined
import GoSem.ClaimMapViews
import Derived.JoinedTies
import Derived.KernelRfl
namespace Go.Proofs.YtcmcfafhllpojaaGreat
/- THE CELL 'sum', in the pinned program and in every row, IS THE sha256 OF THE DUMP (.gsa) THAT YtcmcfafhllpojaaGreatProg.lean LOADS. Nothing in Lean hashes anything: it is a label: what it is worth is what the hold of that sum in a sandbox is worth. -/
noncomputable def Tryz.pinned : Pinned := { name := "ytcmcfafhllpojaagreat", sum := "52d9361ae6c78f3012f6b0961c09c6844759cd41edf860ceba4e23048818e693", checked := Tryz.checked }
namespace Rows
def none {H : Type} : Left H := { results := [], args := [] }

/-- 'wallslaw.Checks': WHATEVER THE INPUT: true; the input reads as it did. -/
def checksSpec : ChangeSpec := { name := "checks", fn := fun _ => fun
  | [d1, d2] => { results := [.lit (.bool true)], args := [d1, d2] }
  | _ => none }
def checksRow : OpenClaim := { program := "ytcmcfafhllpojaagreat", sum := "52d9361ae6c78f3012f6b0961c09c6844759cd41edf860ceba4e23048818e693", func := "walls/wallslaw.Checks", spec := "checks", apart := false }
def ChecksSaid : Prop := checksRow.holds Tryz.pinned (OpenSpec.ofChange checksSpec)

/-- ITS FALSE NEIGHBOUR: 'it returns false'. Refute it at one input. -/
def checksWrong : ChangeSpec := { name := "checks", fn := fun _ => fun
  | [d1, d2] => { results := [.lit (.bool false)], args := [d1, d2] }
  | _ => none }
def ChecksWrongFalsely : Prop := checksRow.holds Tryz.pinned (OpenSpec.ofChange checksWrong)

/-- 'wallslaw.Bounds': WHATEVER THE INPUT: true; the input reads as it did. -/
def boundsSpec : ChangeSpec := { name := "bounds", fn := fun _ => fun
  | [d1, d2] => { results := [.lit (.bool true)], args := [d1, d2] }
  | _ => none }
def boundsRow : OpenClaim := { program := "ytcmcfafhllpojaagreat", sum := "52d9361ae6c78f3012f6b0961c09c6844759cd41edf860ceba4e23048818e693", func := "walls/wallslaw.Bounds", spec := "bounds", apart := false }
def BoundsSaid : Prop := boundsRow.holds Tryz.pinned (OpenSpec.ofChange boundsSpec)

/-- ITS FALSE NEIGHBOUR: 'it returns false'. Refute it at one input. -/
def boundsWrong : ChangeSpec := { name := "bounds", fn := fun _ => fun
  | [d1, d2] => { results := [.lit (.bool false)], args := [d1, d2] }
  | _ => none }
def BoundsWrongFalsely : Prop := boundsRow.holds Tryz.pinned (OpenSpec.ofChange boundsWrong)

/-- 'wallslaw.Tables': WHATEVER THE INPUT: true; the input reads as it did. -/
def tablesSpec : ChangeSpec := { name := "tables", fn := fun _ => fun
  | [d1, d2] => { results := [.lit (.bool true)], args := [d1, d2] }
  | _ => none }
def tablesRow : OpenClaim := { program := "ytcmcfafhllpojaagreat", sum := "52d9361ae6c78f3012f6b0961c09c6844759cd41edf860ceba4e23048818e693", func := "walls/wallslaw.Tables", spec := "tables", apart := false }
def TablesSaid : Prop := tablesRow.holds Tryz.pinned (OpenSpec.ofChange tablesSpec)

/-- ITS FALSE NEIGHBOUR: 'it returns false'. Refute it at one input. -/
def tablesWrong : ChangeSpec := { name := "tables", fn := fun _ => fun
  | [d1, d2] => { results := [.lit (.bool false)], args := [d1, d2] }
  | _ => none }
def TablesWrongFalsely : Prop := tablesRow.holds Tryz.pinned (OpenSpec.ofChange tablesWrong)

/-- 'wallslaw.Victims': WHATEVER THE INPUT: true; the input reads as it did. -/
def victimsSpec : ChangeSpec := { name := "victims", fn := fun _ => fun
  | [d1, d2] => { results := [.lit (.bool true)], args := [d1, d2] }
  | _ => none }
def victimsRow : OpenClaim := { program := "ytcmcfafhllpojaagreat", sum := "52d9361ae6c78f3012f6b0961c09c6844759cd41edf860ceba4e23048818e693", func := "walls/wallslaw.Victims", spec := "victims", apart := false }
def VictimsSaid : Prop := victimsRow.holds Tryz.pinned (OpenSpec.ofChange victimsSpec)

/-- ITS FALSE NEIGHBOUR: 'it returns false'. Refute it at one input. -/
def victimsWrong : ChangeSpec := { name := "victims", fn := fun _ => fun
  | [d1, d2] => { results := [.lit (.bool false)], args := [d1, d2] }
  | _ => none }
def VictimsWrongFalsely : Prop := victimsRow.holds Tryz.pinned (OpenSpec.ofChange victimsWrong)

/-- 'wallslaw.Starts': WHATEVER THE INPUT: true; the input reads as it did. -/
def startsSpec : ChangeSpec := { name := "starts", fn := fun _ => fun
  | [d1, d2] => { results := [.lit (.bool true)], args := [d1, d2] }
  | _ => none }
def startsRow : OpenClaim := { program := "ytcmcfafhllpojaagreat", sum := "52d9361ae6c78f3012f6b0961c09c6844759cd41edf860ceba4e23048818e693", func := "walls/wallslaw.Starts", spec := "starts", apart := false }
def StartsSaid : Prop := startsRow.holds Tryz.pinned (OpenSpec.ofChange startsSpec)

/-- ITS FALSE NEIGHBOUR: 'it returns false'. Refute it at one input. -/
def startsWrong : ChangeSpec := { name := "starts", fn := fun _ => fun
  | [d1, d2] => { results := [.lit (.bool false)], args := [d1, d2] }
  | _ => none }
def StartsWrongFalsely : Prop := startsRow.holds Tryz.pinned (OpenSpec.ofChange startsWrong)

/-- 'wallslaw.Traces': WHATEVER THE INPUT: true; the input reads as it did. -/
def tracesSpec : ChangeSpec := { name := "traces", fn := fun _ => fun
  | [d1, d2] => { results := [.lit (.bool true)], args := [d1, d2] }
  | _ => none }
def tracesRow : OpenClaim := { program := "ytcmcfafhllpojaagreat", sum := "52d9361ae6c78f3012f6b0961c09c6844759cd41edf860ceba4e23048818e693", func := "walls/wallslaw.Traces", spec := "traces", apart := false }
def TracesSaid : Prop := tracesRow.holds Tryz.pinned (OpenSpec.ofChange tracesSpec)

/-- ITS FALSE NEIGHBOUR: 'it returns false'. Refute it at one input. -/
def tracesWrong : ChangeSpec := { name := "traces", fn := fun _ => fun
  | [d1, d2] => { results := [.lit (.bool false)], args := [d1, d2] }
  | _ => none }
def TracesWrongFalsely : Prop := tracesRow.holds Tryz.pinned (OpenSpec.ofChange tracesWrong)

/-- 'wallskeep.Walled': WHATEVER THE INPUT: true; the input reads as it did. -/
def walledSpec : ChangeSpec := { name := "walled", fn := fun _ => fun
  | [d1, d2, d3] => { results := [.lit (.bool true)], args := [d1, d2, d3] }
  | _ => none }
def walledRow : OpenClaim := { program := "ytcmcfafhllpojaagreat", sum := "52d9361ae6c78f3012f6b0961c09c6844759cd41edf860ceba4e23048818e693", func := "walls/wallskeep.Walled", spec := "walled", apart := false }
def WalledSaid : Prop := walledRow.holds Tryz.pinned (OpenSpec.ofChange walledSpec)

/-- ITS FALSE NEIGHBOUR: 'it returns false'. Refute it at one input. -/
def walledWrong : ChangeSpec := { name := "walled", fn := fun _ => fun
  | [d1, d2, d3] => { results := [.lit (.bool false)], args := [d1, d2, d3] }
  | _ => none }
def WalledWrongFalsely : Prop := walledRow.holds Tryz.pinned (OpenSpec.ofChange walledWrong)

/-- 'wallskeep.Timed': WHATEVER THE INPUT: true; the input reads as it did. -/
def timedSpec : ChangeSpec := { name := "timed", fn := fun _ => fun
  | [d] => { results := [.lit (.bool true)], args := [d] }
  | _ => none }
def timedRow : OpenClaim := { program := "ytcmcfafhllpojaagreat", sum := "52d9361ae6c78f3012f6b0961c09c6844759cd41edf860ceba4e23048818e693", func := "walls/wallskeep.Timed", spec := "timed", apart := false }
def TimedSaid : Prop := timedRow.holds Tryz.pinned (OpenSpec.ofChange timedSpec)

/-- ITS FALSE NEIGHBOUR: 'it returns false'. Refute it at one input. -/
def timedWrong : ChangeSpec := { name := "timed", fn := fun _ => fun
  | [d] => { results := [.lit (.bool false)], args := [d] }
  | _ => none }
def TimedWrongFalsely : Prop := timedRow.holds Tryz.pinned (OpenSpec.ofChange timedWrong)

/- THE SECOND FORM. 'bulk': how many values and letters a reading holds, each counted each time it is reached (what is shared counts as often as it is met; a slice's spare places count too). A statement '..UptoSaid' is the law's where the arguments, and the package variables that the reading takes, are together of bulk at most 1048576: NARROWER than '..Said'. Prove '..Said' where nothing that the law and all that it calls make is longer than what came in: it says more and counts as full. Else prove '..UptoSaid'. A law counts once. -/
mutual
def uptoBulk {H : Type} : DataW H → Nat
  | .lit (.string bytes) => bytes.length + 1
  | .lit _ => 1
  | .nil => 1
  | .ptr d => uptoBulk d + 1
  | .slice elems spare => uptoBulkAll elems + uptoBulkAll spare + 1
  | .agg parts => uptoBulkAll parts + 1
  | .iface _ d => uptoBulk d + 1
  | .map entries => uptoBulkEntries entries + 1
  | .held _ => 1
def uptoBulkAll {H : Type} : List (DataW H) → Nat
  | [] => 0
  | d :: r => uptoBulk d + uptoBulkAll r
def uptoBulkEntries {H : Type} : List (Lit × DataW H) → Nat
  | [] => 0
  | x :: r => uptoBulkEntry x + uptoBulkEntries r
def uptoBulkEntry {H : Type} : Lit × DataW H → Nat
  | (.string bytes, d) => bytes.length + uptoBulk d + 1
  | (_, d) => uptoBulk d + 1
 end
def uptoSmall : (H : Type) → List (DataW H) → Bool := fun _ ds => decide (uptoBulkAll ds ≤ 1048576)
def OpenSpec.upto (s : _root_.Go.ChangeSpec) : _root_.Go.OpenSpec := { _root_.Go.OpenSpec.ofChange s with cond := some uptoSmall }

/-- 'wallslaw.Checks', WHERE WHAT IT READS IS OF BULK AT MOST 1048576: true; the input reads as it did. -/
def checksUptoRow : OpenClaim := { program := "ytcmcfafhllpojaagreat", sum := "52d9361ae6c78f3012f6b0961c09c6844759cd41edf860ceba4e23048818e693", func := "walls/wallslaw.Checks", spec := "checks", apart := false, narrowed := true }
def ChecksUptoSaid : Prop := checksUptoRow.holds Tryz.pinned (OpenSpec.upto checksSpec)

/-- 'wallslaw.Bounds', WHERE WHAT IT READS IS OF BULK AT MOST 1048576: true; the input reads as it did. -/
def boundsUptoRow : OpenClaim := { program := "ytcmcfafhllpojaagreat", sum := "52d9361ae6c78f3012f6b0961c09c6844759cd41edf860ceba4e23048818e693", func := "walls/wallslaw.Bounds", spec := "bounds", apart := false, narrowed := true }
def BoundsUptoSaid : Prop := boundsUptoRow.holds Tryz.pinned (OpenSpec.upto boundsSpec)

/-- 'wallslaw.Tables', WHERE WHAT IT READS IS OF BULK AT MOST 1048576: true; the input reads as it did. -/
def tablesUptoRow : OpenClaim := { program := "ytcmcfafhllpojaagreat", sum := "52d9361ae6c78f3012f6b0961c09c6844759cd41edf860ceba4e23048818e693", func := "walls/wallslaw.Tables", spec := "tables", apart := false, narrowed := true }
def TablesUptoSaid : Prop := tablesUptoRow.holds Tryz.pinned (OpenSpec.upto tablesSpec)

/-- 'wallslaw.Victims', WHERE WHAT IT READS IS OF BULK AT MOST 1048576: true; the input reads as it did. -/
def victimsUptoRow : OpenClaim := { program := "ytcmcfafhllpojaagreat", sum := "52d9361ae6c78f3012f6b0961c09c6844759cd41edf860ceba4e23048818e693", func := "walls/wallslaw.Victims", spec := "victims", apart := false, narrowed := true }
def VictimsUptoSaid : Prop := victimsUptoRow.holds Tryz.pinned (OpenSpec.upto victimsSpec)

/-- 'wallslaw.Starts', WHERE WHAT IT READS IS OF BULK AT MOST 1048576: true; the input reads as it did. -/
def startsUptoRow : OpenClaim := { program := "ytcmcfafhllpojaagreat", sum := "52d9361ae6c78f3012f6b0961c09c6844759cd41edf860ceba4e23048818e693", func := "walls/wallslaw.Starts", spec := "starts", apart := false, narrowed := true }
def StartsUptoSaid : Prop := startsUptoRow.holds Tryz.pinned (OpenSpec.upto startsSpec)

/-- 'wallslaw.Traces', WHERE WHAT IT READS IS OF BULK AT MOST 1048576: true; the input reads as it did. -/
def tracesUptoRow : OpenClaim := { program := "ytcmcfafhllpojaagreat", sum := "52d9361ae6c78f3012f6b0961c09c6844759cd41edf860ceba4e23048818e693", func := "walls/wallslaw.Traces", spec := "traces", apart := false, narrowed := true }
def TracesUptoSaid : Prop := tracesUptoRow.holds Tryz.pinned (OpenSpec.upto tracesSpec)

/-- 'wallskeep.Walled', WHERE WHAT IT READS IS OF BULK AT MOST 1048576: true; the input reads as it did. -/
def walledUptoRow : OpenClaim := { program := "ytcmcfafhllpojaagreat", sum := "52d9361ae6c78f3012f6b0961c09c6844759cd41edf860ceba4e23048818e693", func := "walls/wallskeep.Walled", spec := "walled", apart := false, narrowed := true }
def WalledUptoSaid : Prop := walledUptoRow.holds Tryz.pinned (OpenSpec.upto walledSpec)

/-- 'wallskeep.Timed', WHERE WHAT IT READS IS OF BULK AT MOST 1048576: true; the input reads as it did. -/
def timedUptoRow : OpenClaim := { program := "ytcmcfafhllpojaagreat", sum := "52d9361ae6c78f3012f6b0961c09c6844759cd41edf860ceba4e23048818e693", func := "walls/wallskeep.Timed", spec := "timed", apart := false, narrowed := true }
def TimedUptoSaid : Prop := timedUptoRow.holds Tryz.pinned (OpenSpec.upto timedSpec)

end Rows
end Go.Proofs.YtcmcfafhllpojaaGreat
