/-
  The law Last.
-/
import Derived.Test.YtcmcfafhllpojaaClLastL
import Derived.Test.YtcmcfafhllpojaaClKaseR
namespace Go.Proofs.Ytcmcfafhllpojaa
open Go.ChangeShapes Go.WideShapes Go.ChangeAt Go.RowKit

theorem last_holds : Rows.LastSaid :=
  OpenClaim.holds_of_wide 5 Try.f5 rfl rfl rfl rfl rfl rfl rfl ⟨rfl, rfl, rfl, rfl, rfl⟩ rfl rfl rfl rfl rfl (by kernel_rfl) Try.func5 (by kernel_rfl)
    (of_decide_eq_true (by kernel_rfl)) (by unfold Func.isWrapper; first | (rw [if_pos (by decide +kernel)]; kernel_rfl) | (rw [if_neg (by decide +kernel)]; exact ⟨rfl, rfl⟩))
    (fun os started H enc _ => last_lifted (fun x l hz d hd es hr sa len cap w h hE hl => kread_any x l hz d hd es hr sa len cap w h hE hl) os started H enc)

#print axioms last_holds
end Go.Proofs.Ytcmcfafhllpojaa
