/-
  The law Walled, where what it reads is of bounded bulk.
-/
import Derived.Test.YtcmcfafhllpojaaGreatRows
import Derived.Test.YtcmcfafhllpojaaGreatClOpenU
import Derived.Test.YtcmcfafhllpojaaGreatClWalledK
import Derived.JoinedCond
import Derived.Deep.CondSized
namespace Go.Proofs.YtcmcfafhllpojaaGreat
open Go.ChangeShapes Go.WideShapes Go.ChangeAt Go.RowKit

theorem Tryz.own : ownKnob Tryz.prog.godebug = none := by kernel_rfl
theorem Tryz.laidOut : laidOutB Tryz.prog = true := by kernel_rfl

/-- What a case with nothing in it reads as. -/
abbrev caseZ (H : Type) : DataW H := .agg [.agg [.lit (.int .i64 0), .lit (.int .i64 0), .lit (.int .i64 0), .lit (.int .i64 0), .lit (.int .i64 0), .lit (.int .i64 0), .lit (.int .i64 0), .nil, .lit (.int .i64 0), .nil, .nil, .lit (.int .i64 0), .lit (.int .i64 0)], .nil, .nil, .nil, .nil]
abbrev caseV : Value := .agg #[.int .i64 0, .int .i64 0, .int .i64 0, .int .i64 0, .int .i64 0, .int .i64 0, .int .i64 0, .slice none 0 0, .int .i64 0, .slice none 0 0, .slice none 0 0, .int .i64 0, .int .i64 0, .slice none 0 0, .slice none 0 0, .slice none 0 0, .slice none 0 0]

set_option maxRecDepth 100000 in
theorem walled_lifted (os : Os) (started : os.Started) (H : Type) (enc : TypeId × Value → H) (F : Stop.Interp) :
    ReturnsInHanded {} Tryz.checked os 9 .any ((Rows.OpenSpec.upto Rows.walledSpec).pre6 enc Tryz.prog Tryz.f9 Rows.walledUptoRow.domain false) (((Rows.OpenSpec.upto Rows.walledSpec).at F).post enc Tryz.prog Tryz.f9 false true false false) := by
  refine returnsInHanded_of_cond_sized (C := Tryz.checked) (s := Rows.OpenSpec.upto Rows.walledSpec) (k := Rows.uptoSmall) rfl Tryz.own started (by kernel_rfl) Tryz.func9
    (OpenSpec.witness (enc := enc) (C := Tryz.checked) (s := Rows.OpenSpec.upto Rows.walledSpec) (k := Rows.uptoSmall) rfl false ⟨#[], #[caseV, caseV, .int .i64 0], []⟩ 8 (by kernel_rfl) (by kernel_rfl) (by kernel_rfl)
      (x := ([caseZ H, caseZ H, .lit (.int .i64 0)], [], [])) (by kernel_rfl) rfl (by kernel_rfl)) ?_
  intro W base args ds gs before hval0 hW _ hk0 hsz0 _
  have hsz : (DataW.weightsEach Tryz.prog (Tryz.f9.params.toList ++ Rows.walledSpec.plain.varTypes Tryz.prog) (ds ++ gs)).all (· ≤ reachBytes) = true := hsz0
  clear hsz0
  have hval : ∀ (j : Nat) t v, Tryz.f9.params[j]? = some t → args[j]? = some v → Value.okWide Tryz.prog W .any base t v := hval0
  have hW1 : DataW.Whole enc Tryz.prog Tryz.f9.params.toList Rows.walledSpec.vars false W args.toList ds gs before := hW
  have hW' := hW1
  obtain ⟨p, q, hA0, hV, rfl, _, _⟩ := hW1
  have hA : DataW.TrodAll enc Tryz.prog W 0 (fun _ => true) true Tryz.f9.params.toList args.toList ds p := hA0
  rw [Tryz.params9] at hA hval hsz
  obtain ⟨v0, v1, v2, d0, d1, d2, p0, p1, p2, rfl, rfl, rfl, h0, h1, h2⟩ := trodAll_three hA
  obtain ⟨rfl, rfl⟩ := trodVars_none hV
  clear hA0 hval0
  simp only [List.append_nil] at hW' hk0
  have hbulk : Rows.uptoBulkAll [d0, d1, d2] ≤ 1048576 := of_decide_eq_true hk0
  simp only [Rows.uptoBulkAll] at hbulk
  have lt0 : ∀ x ∈ p0, x.block < W.heap.size := fun x hx => hW'.lt x (by simp [hx])
  have lt1 : ∀ x ∈ p1, x.block < W.heap.size := fun x hx => hW'.lt x (by simp [hx])
  have lt2 : ∀ x ∈ p2, x.block < W.heap.size := fun x hx => hW'.lt x (by simp [hx])
  have z0 : Sized Tryz.prog 33 d0 := fun n hn => by
    have := List.all_eq_true.1 hsz _ (DataW.weights_mem_each (j := 0) (t := 33) rfl rfl n hn)
    simpa using this
  have z1 : Sized Tryz.prog 33 d1 := fun n hn => by
    have := List.all_eq_true.1 hsz _ (DataW.weights_mem_each (j := 1) (t := 33) rfl rfl n hn)
    simpa using this
  obtain ⟨a0, rfl, _⟩ := okWide_struct Tryz.underlying33 (hval 0 33 v0 rfl rfl)
  obtain ⟨a1, rfl, _⟩ := okWide_struct Tryz.underlying33 (hval 1 33 v1 rfl rfl)
  have h0k := h0
  have h1k := h1
  have h2k := h2
  obtain ⟨f0, hf0⟩ := h0
  obtain ⟨f1, hf1⟩ := h1
  obtain ⟨f2, hf2⟩ := h2
  obtain ⟨t, hv2⟩ := okWide_int Tryz.underlying3 (hval 2 3 v2 rfl rfl)
  subst hv2
  obtain ⟨t', e2, tb0, tb1⟩ := read_int (n := f2) (v := .int .i64 t) (by simpa [Value.cells] using hf2)
  obtain rfl : t = t' := by simpa using e2
  obtain ⟨c, s, e0, hcs, ho0, hr0⟩ := read_caseU (n := f0) (cs := a0.toList) (by simpa [Value.cells] using hf0) z0
  obtain rfl : a0 = csA c s := by
    have := congrArg List.toArray e0
    simpa using this
  obtain ⟨c', s', e1, hcs', ho1, _⟩ := read_caseU (n := f1) (cs := a1.toList) (by simpa [Value.cells] using hf1) z1
  obtain rfl : a1 = csA c' s' := by
    have := congrArg List.toArray e1
    simpa using this
  have hq0 : c.own.length ≤ Rows.uptoBulk d0 := ho0
  have hq1 : c'.own.length ≤ Rows.uptoBulk d1 := ho1
  refine (walled_any c c' s s' t W hcs hcs' tb0 tb1 (by omega) (by omega) (by have := hcs.runs.hlen; omega)).mono fun e W' ⟨he, hb⟩ => ?_
  subst he
  have ar0 := Below.trod Tryz.laidOut (by kernel_rfl) (of_decide_eq_true (by kernel_rfl)) h0k hb lt0
  have ar1 := Below.trod Tryz.laidOut (by kernel_rfl) (of_decide_eq_true (by kernel_rfl)) h1k hb lt1
  have ar2 := Below.trod Tryz.laidOut (by kernel_rfl) (of_decide_eq_true (by kernel_rfl)) h2k hb lt2
  refine ⟨_, rfl, _, _, _, [], p0 ++ (p1 ++ p2), [], hW', ?_, trodAll_mk3 ar0 ar1 ar2, rfl, hb.frame _, fun h => by cases h⟩
  exact trodAll_mk1 (shut_bool Tryz.underlying4 true)

theorem walled_upto : Rows.WalledUptoSaid :=
  OpenClaim.holds_of_cond 9 Tryz.f9 rfl rfl rfl rfl rfl rfl rfl ⟨rfl, rfl, rfl, rfl, rfl⟩ rfl rfl rfl rfl rfl (by kernel_rfl) Tryz.func9 (by kernel_rfl)
    (of_decide_eq_true (by kernel_rfl)) (by unfold Func.isWrapper; first | (rw [if_pos (by decide +kernel)]; kernel_rfl) | (rw [if_neg (by decide +kernel)]; exact ⟨rfl, rfl⟩))
    (fun os started H enc _ F => walled_lifted os started H enc F)

#print axioms walled_upto
end Go.Proofs.YtcmcfafhllpojaaGreat
