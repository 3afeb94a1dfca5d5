/-
  OpenR, CoherL
-/
import Derived.Test.YtcmcfafhllpojabGreatClPackX
import Derived.Test.YtcmcfafhllpojabGreatRows
import Derived.Test.YtcmcfafhllpojabGreatClPackAP
namespace Go.Proofs.YtcmcfafhllpojabGreat
open Go.ChangeShapes Go.WideShapes Go.ChangeAt Go.RowKit

section
variable {H : Type} {enc : TypeId × Value → H} {W : World}

set_option maxRecDepth 100000 in
theorem read_caseR {n : Nat} {cs : List Value} {y : DataW H × List MemPlace} (h : DataW.trod enc Tryz.prog W 0 (fun _ => true) true n 33 cs = some y) (hz : Sized Tryz.prog 33 y.1) :
    ∃ x l, cs = csL x l ∧ CaseAt W x l ∧ x.runs.length * 8 ≤ 140737488351232 := by
  obtain ⟨xs, m, _, hy, hlen, hxl, hf⟩ := DataW.trod_struct Tryz.underlying33 h
  rw [Tryz.cellsCase] at hlen
  have hxl' : xs.length = 5 := hxl
  match cs, hlen, xs, hxl' with
  | [c0, c1, c2, c3, c4, c5, c6, c7, c8, c9, c10, c11, c12, c13, c14, c15, c16], _, [y0, y1, y2, y3, y4], _ =>
    have t0 := hf 0 _ rfl
    have t1 := hf 1 _ rfl
    have t2 := hf 2 _ rfl
    have t3 := hf 3 _ rfl
    have t4 := hf 4 _ rfl
    simp only [List.getElem?_cons_zero, List.getElem?_cons_succ] at t0 t1 t2 t3 t4
    subst hy
    have z0 : Sized Tryz.prog 29 y0.1 := hz.agg Tryz.underlying33 (j := 0) rfl rfl
    have z1 : Sized Tryz.prog 30 y1.1 := hz.agg Tryz.underlying33 (j := 1) rfl rfl
    have z2 : Sized Tryz.prog 31 y2.1 := hz.agg Tryz.underlying33 (j := 2) rfl rfl
    have z3 : Sized Tryz.prog 31 y3.1 := hz.agg Tryz.underlying33 (j := 3) rfl rfl
    have z4 : Sized Tryz.prog 25 y4.1 := hz.agg Tryz.underlying33 (j := 4) rfl rfl
    obtain ⟨c, s, e0, h0, _⟩ := read_cfg t0 z0
    obtain ⟨pa, pl, pc, progs, e1, h1⟩ := read_progs t1 z1
    obtain ⟨oa, ol, oc, own, e2, h2⟩ := read_cells t2 z2
    obtain ⟨ma, ml, mc, com, e3, h3⟩ := read_cells t3 z3
    obtain ⟨ra, rl, rc, runs, e4, h4, hb4⟩ := read_ints t4 z4
    simp only [cfgL] at e0
    obtain ⟨rfl, rfl, rfl, rfl, rfl, rfl, rfl, rfl, rfl, rfl, rfl, rfl, rfl⟩ := e0
    subst e1 e2 e3 e4
    exact ⟨⟨c, progs, own, com, runs⟩, ⟨s, pa, pl, pc, oa, ol, oc, ma, ml, mc, ra, rl, rc⟩, rfl, ⟨h0, h1, h2, h3, h4⟩, hb4⟩
end
end Go.Proofs.YtcmcfafhllpojabGreat

namespace Go.Proofs.YtcmcfafhllpojabGreat
open Go.ChangeShapes Go.WideShapes Go.ChangeAt Go.RowKit

theorem Tryz.own : ownKnob Tryz.prog.godebug = none := by kernel_rfl
theorem Tryz.laidOut : laidOutB Tryz.prog = true := by kernel_rfl

set_option maxRecDepth 100000 in
theorem coherent_lifted (os : Os) (started : os.Started) (H : Type) (enc : TypeId × Value → H) :
    ReturnsInHanded {} Tryz.checked os 5 .any (Rows.coherentSpec.pre6 enc Tryz.prog Tryz.f5 Rows.coherentRow.domain false) (Rows.coherentSpec.post enc Tryz.prog Tryz.f5 false true false false) := by
  refine returnsInHanded_of_change_sized (C := Tryz.checked) Tryz.own started (by kernel_rfl) Tryz.func5
    (ChangeSpec.witness6 (enc := enc) (C := Tryz.checked) false ⟨#[], #[.agg #[.int .i64 0, .int .i64 0, .int .i64 0, .int .i64 0, .int .i64 0, .int .i64 0, .int .i64 0, .slice none 0 0, .int .i64 0, .slice none 0 0, .slice none 0 0, .int .i64 0, .int .i64 0, .slice none 0 0, .slice none 0 0, .slice none 0 0, .slice none 0 0]], []⟩ 8 (by kernel_rfl) (by kernel_rfl) (by kernel_rfl) (by kernel_rfl)) ?_
  intro W base args ds gs before hval0 hW _ hsz0 _
  have hsz : (DataW.weightsEach Tryz.prog (Tryz.f5.params.toList ++ Rows.coherentSpec.plain.varTypes Tryz.prog) (ds ++ gs)).all (· ≤ reachBytes) = true := hsz0
  clear hsz0
  have hval : ∀ (j : Nat) t v, Tryz.f5.params[j]? = some t → args[j]? = some v → Value.okWide Tryz.prog W .any base t v := hval0
  have hW' := hW
  obtain ⟨p, q, hA0, hV, rfl, _, _⟩ := hW
  have hA : DataW.TrodAll enc Tryz.prog W 0 (fun _ => true) true Tryz.f5.params.toList args.toList ds p := hA0
  rw [Tryz.params5] at hA hval hsz
  obtain ⟨v0, d0, rfl, rfl, h0⟩ := trodAll_one hA
  obtain ⟨rfl, rfl⟩ := trodVars_none hV
  clear hA0 hval0
  simp only [List.append_nil] at hW'
  have lt0 : ∀ x ∈ p, x.block < W.heap.size := fun x hx => hW'.lt x (by simp [hx])
  have z0 : Sized Tryz.prog 33 d0 := fun n hn => by
    have := List.all_eq_true.1 hsz _ (DataW.weights_mem_each (j := 0) (t := 33) rfl rfl n hn)
    simpa using this
  obtain ⟨a0, rfl, _⟩ := okWide_struct Tryz.underlying33 (hval 0 33 v0 rfl rfl)
  have h0k := h0
  obtain ⟨f0, hf0⟩ := h0
  obtain ⟨c, s, e0, hcs, hrl⟩ := read_caseR (n := f0) (cs := a0.toList) (by simpa [Value.cells] using hf0) z0
  obtain rfl : a0 = csA c s := by
    have := congrArg List.toArray e0
    simpa using this
  refine (coherent_any c s W hcs hrl).mono fun e W' ⟨he, hb⟩ => ?_
  subst he
  have ar0 := Below.trod Tryz.laidOut (by kernel_rfl) (of_decide_eq_true (by kernel_rfl)) h0k hb lt0
  refine ⟨_, rfl, _, _, _, [], p, [], hW', ?_, trodAll_mk1 ar0, rfl, hb.frame _, fun h => by cases h⟩
  exact trodAll_mk1 (shut_bool Tryz.underlying4 true)

theorem coherent_holds : Rows.CoherentSaid :=
  OpenClaim.holds_of_wide 5 Tryz.f5 rfl rfl rfl rfl rfl rfl rfl ⟨rfl, rfl, rfl, rfl, rfl⟩ rfl rfl rfl rfl rfl (by kernel_rfl) Tryz.func5 (by kernel_rfl)
    (of_decide_eq_true (by kernel_rfl)) (by unfold Func.isWrapper; first | (rw [if_pos (by decide +kernel)]; kernel_rfl) | (rw [if_neg (by decide +kernel)]; exact ⟨rfl, rfl⟩))
    (fun os started H enc _ => coherent_lifted os started H enc)

#print axioms coherent_holds
end Go.Proofs.YtcmcfafhllpojabGreat
