/-
  The law Prompt.
-/
import Derived.Test.YtcmcfafhllpojaaPromptL
import Derived.Test.YtcmcfafhllpojaaWait
namespace Go.Proofs.Ytcmcfafhllpojaa
open Go.ChangeShapes Go.WideShapes Go.ChangeAt Go.RowKit

theorem prompt_holds : Rows.PromptSaid :=
  OpenClaim.holds_of_wide 3 Try.f3 rfl rfl rfl rfl rfl rfl rfl ⟨rfl, rfl, rfl, rfl, rfl⟩ rfl rfl rfl rfl rfl (by kernel_rfl) Try.func3 (by kernel_rfl)
    (of_decide_eq_true (by kernel_rfl)) (by unfold Func.isWrapper; first | (rw [if_pos (by decide +kernel)]; kernel_rfl) | (rw [if_neg (by decide +kernel)]; exact ⟨rfl, rfl⟩))
    (fun os started H enc _ => prompt_lifted wait_any os started H enc)

#print axioms prompt_holds
end Go.Proofs.Ytcmcfafhllpojaa
