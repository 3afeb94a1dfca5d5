/-
  No cell of these rows narrows 'for every input' (looked for: loops, veiled, ifaces, maps, wideKeys, modest, calm, conditions, laid).
  DERIVED. THE GIVEN ROWS OF THIS SEAT. 4 by the template 'for every input the law returns true; each argument reads behind the call as it read before'; 0 by the template 'total and deterministic' (their statements: YtcmcfafhllpojaaTotals.lean).
  GIVEN WITH THE SEED: the statements are not yours to turn. If you find one false, say at which input.
  Laid BY PROGRAM, IN A SANDBOX (cutbox-rows.mjs): the forced cells as the released guide's own fill.sh prints them over the translation 6c843e101676ec5f… (all of the seat's roots in one cut). By AI agents, Wed Nov 11 2026. No macro, syntax, notation, axiom, sorry.
-/
import Derived.Test.YtcmcfafhllpojaaChecked
import GoSem.Claim
import GoSem.ClaimJoined
import GoSem.ClaimMapViews
import Derived.JoinedTies
import Derived.KernelRfl
namespace Go.Proofs.Ytcmcfafhllpojaa
/- THE CELL 'sum', in the pinned program and in every row, IS THE sha256 OF THE DUMP (.gsa) THAT YtcmcfafhllpojaaProg.lean LOADS. Nothing in Lean hashes anything: it is a label: what it is worth is what the hold of that sum in a sandbox is worth. -/
noncomputable def Try.pinned : Pinned := { name := "ytcmcfafhllpojaa", sum := "6c843e101676ec5f705e393fa049cc65965ff62de92ddf358eba0ad28f7fe66f", checked := Try.checked }
namespace Rows
def none {H : Type} : Left H := { results := [], args := [] }

/-- 'wallskeep.Prompt': WHATEVER THE INPUT: true; the input reads as it did. -/
def promptSpec : ChangeSpec := { name := "prompt", fn := fun _ => fun
  | [d1, d2] => { results := [.lit (.bool true)], args := [d1, d2] }
  | _ => none }
def promptRow : OpenClaim := { program := "ytcmcfafhllpojaa", sum := "6c843e101676ec5f705e393fa049cc65965ff62de92ddf358eba0ad28f7fe66f", func := "walls/wallskeep.Prompt", spec := "prompt", apart := false }
def PromptSaid : Prop := promptRow.holds Try.pinned (OpenSpec.ofChange promptSpec)

/-- ITS FALSE NEIGHBOUR: 'it returns false'. Refute it at one input. -/
def promptWrong : ChangeSpec := { name := "prompt", fn := fun _ => fun
  | [d1, d2] => { results := [.lit (.bool false)], args := [d1, d2] }
  | _ => none }
def PromptWrongFalsely : Prop := promptRow.holds Try.pinned (OpenSpec.ofChange promptWrong)

/-- 'wallskeep.Spared': WHATEVER THE INPUT: true; the input reads as it did. -/
def sparedSpec : ChangeSpec := { name := "spared", fn := fun _ => fun
  | [d1, d2] => { results := [.lit (.bool true)], args := [d1, d2] }
  | _ => none }
def sparedRow : OpenClaim := { program := "ytcmcfafhllpojaa", sum := "6c843e101676ec5f705e393fa049cc65965ff62de92ddf358eba0ad28f7fe66f", func := "walls/wallskeep.Spared", spec := "spared", apart := false }
def SparedSaid : Prop := sparedRow.holds Try.pinned (OpenSpec.ofChange sparedSpec)

/-- ITS FALSE NEIGHBOUR: 'it returns false'. Refute it at one input. -/
def sparedWrong : ChangeSpec := { name := "spared", fn := fun _ => fun
  | [d1, d2] => { results := [.lit (.bool false)], args := [d1, d2] }
  | _ => none }
def SparedWrongFalsely : Prop := sparedRow.holds Try.pinned (OpenSpec.ofChange sparedWrong)

/-- 'wallskeep.Last': WHATEVER THE INPUT: true; the input reads as it did. -/
def lastSpec : ChangeSpec := { name := "last", fn := fun _ => fun
  | [d] => { results := [.lit (.bool true)], args := [d] }
  | _ => none }
def lastRow : OpenClaim := { program := "ytcmcfafhllpojaa", sum := "6c843e101676ec5f705e393fa049cc65965ff62de92ddf358eba0ad28f7fe66f", func := "walls/wallskeep.Last", spec := "last", apart := false }
def LastSaid : Prop := lastRow.holds Try.pinned (OpenSpec.ofChange lastSpec)

/-- ITS FALSE NEIGHBOUR: 'it returns false'. Refute it at one input. -/
def lastWrong : ChangeSpec := { name := "last", fn := fun _ => fun
  | [d] => { results := [.lit (.bool false)], args := [d] }
  | _ => none }
def LastWrongFalsely : Prop := lastRow.holds Try.pinned (OpenSpec.ofChange lastWrong)

/-- 'wallskeep.Swift': WHATEVER THE INPUT: true; the input reads as it did. -/
def swiftSpec : ChangeSpec := { name := "swift", fn := fun _ => fun
  | [d1, d2] => { results := [.lit (.bool true)], args := [d1, d2] }
  | _ => none }
def swiftRow : OpenClaim := { program := "ytcmcfafhllpojaa", sum := "6c843e101676ec5f705e393fa049cc65965ff62de92ddf358eba0ad28f7fe66f", func := "walls/wallskeep.Swift", spec := "swift", apart := false }
def SwiftSaid : Prop := swiftRow.holds Try.pinned (OpenSpec.ofChange swiftSpec)

/-- ITS FALSE NEIGHBOUR: 'it returns false'. Refute it at one input. -/
def swiftWrong : ChangeSpec := { name := "swift", fn := fun _ => fun
  | [d1, d2] => { results := [.lit (.bool false)], args := [d1, d2] }
  | _ => none }
def SwiftWrongFalsely : Prop := swiftRow.holds Try.pinned (OpenSpec.ofChange swiftWrong)

/- THE SECOND FORM. 'bulk': how many values and letters a reading holds, each counted each time it is reached (what is shared counts as often as it is met; a slice's spare places count too). A statement '..UptoSaid' is the law's where the arguments, and the package variables that the reading takes, are together of bulk at most 1048576: NARROWER than '..Said'. Prove '..Said' where nothing that the law and all that it calls make is longer than what came in: it says more and counts as full. Else prove '..UptoSaid'. A law counts once. -/
mutual
def uptoBulk {H : Type} : DataW H → Nat
  | .lit (.string bytes) => bytes.length + 1
  | .lit _ => 1
  | .nil => 1
  | .ptr d => uptoBulk d + 1
  | .slice elems spare => uptoBulkAll elems + uptoBulkAll spare + 1
  | .agg parts => uptoBulkAll parts + 1
  | .iface _ d => uptoBulk d + 1
  | .map entries => uptoBulkEntries entries + 1
  | .held _ => 1
def uptoBulkAll {H : Type} : List (DataW H) → Nat
  | [] => 0
  | d :: r => uptoBulk d + uptoBulkAll r
def uptoBulkEntries {H : Type} : List (Lit × DataW H) → Nat
  | [] => 0
  | x :: r => uptoBulkEntry x + uptoBulkEntries r
def uptoBulkEntry {H : Type} : Lit × DataW H → Nat
  | (.string bytes, d) => bytes.length + uptoBulk d + 1
  | (_, d) => uptoBulk d + 1
 end
def uptoSmall : (H : Type) → List (DataW H) → Bool := fun _ ds => decide (uptoBulkAll ds ≤ 1048576)
def OpenSpec.upto (s : _root_.Go.ChangeSpec) : _root_.Go.OpenSpec := { _root_.Go.OpenSpec.ofChange s with cond := some uptoSmall }

/-- 'wallskeep.Prompt', WHERE WHAT IT READS IS OF BULK AT MOST 1048576: true; the input reads as it did. -/
def promptUptoRow : OpenClaim := { program := "ytcmcfafhllpojaa", sum := "6c843e101676ec5f705e393fa049cc65965ff62de92ddf358eba0ad28f7fe66f", func := "walls/wallskeep.Prompt", spec := "prompt", apart := false, narrowed := true }
def PromptUptoSaid : Prop := promptUptoRow.holds Try.pinned (OpenSpec.upto promptSpec)

/-- 'wallskeep.Spared', WHERE WHAT IT READS IS OF BULK AT MOST 1048576: true; the input reads as it did. -/
def sparedUptoRow : OpenClaim := { program := "ytcmcfafhllpojaa", sum := "6c843e101676ec5f705e393fa049cc65965ff62de92ddf358eba0ad28f7fe66f", func := "walls/wallskeep.Spared", spec := "spared", apart := false, narrowed := true }
def SparedUptoSaid : Prop := sparedUptoRow.holds Try.pinned (OpenSpec.upto sparedSpec)

/-- 'wallskeep.Last', WHERE WHAT IT READS IS OF BULK AT MOST 1048576: true; the input reads as it did. -/
def lastUptoRow : OpenClaim := { program := "ytcmcfafhllpojaa", sum := "6c843e101676ec5f705e393fa049cc65965ff62de92ddf358eba0ad28f7fe66f", func := "walls/wallskeep.Last", spec := "last", apart := false, narrowed := true }
def LastUptoSaid : Prop := lastUptoRow.holds Try.pinned (OpenSpec.upto lastSpec)

/-- 'wallskeep.Swift', WHERE WHAT IT READS IS OF BULK AT MOST 1048576: true; the input reads as it did. -/
def swiftUptoRow : OpenClaim := { program := "ytcmcfafhllpojaa", sum := "6c843e101676ec5f705e393fa049cc65965ff62de92ddf358eba0ad28f7fe66f", func := "walls/wallskeep.Swift", spec := "swift", apart := false, narrowed := true }
def SwiftUptoSaid : Prop := swiftUptoRow.holds Try.pinned (OpenSpec.upto swiftSpec)

end Rows
end Go.Proofs.Ytcmcfafhllpojaa
