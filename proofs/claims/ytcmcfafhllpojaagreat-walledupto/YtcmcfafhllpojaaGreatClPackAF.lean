/-
  Duo
-/
import Derived.Test.YtcmcfafhllpojaaGreatClKaseE
namespace Go.Proofs.YtcmcfafhllpojaaGreat
open Go.RowKit

/-- What another machine does leaves this one as it was. -/
theorem MachM.aside {w w' : World} {N : Cn} {X Y Y' : XLoc} {m : Mh} (h : MachM w N X m) (hg : Goes w w' Y Y') (hd : ∀ k, X.mine k → ¬ Y.mine k) : MachM w' N X m := by
  have k := h.kin (w' := w') (fun _ => False) (fun b l hl _ => hg.tch.block b (h.labs.lt b (by rw [hl]; simp)) (hd b (by unfold XLoc.mine; rw [hl]; simp)))
  have kc := k.cfg (fun h => h)
  exact ⟨h.nok, h.right, h.now0, h.now1, k.row (fun h => h), kc.1, k.mem (fun h => h) (fun h => h), k.near (fun h => h) (fun h => h), k.dom (fun h => h), h.dcap, fun d hd => k.prg d hd (fun h => h), k.ops (fun h => h), fun d hd => k.far d hd (fun h => h) (fun h => h), fun d hd => k.wait d hd (fun h => h), fun d hd => k.trc d hd (fun h => h), k.wks (fun h => h), h.labs.grow hg.tch.size kc.2⟩

structure Duo (w0 w : World) (N : Cn) (Xa Xb : XLoc) (ma mb : Mh) : Prop where
  a : MachM w N Xa ma
  b : MachM w N Xb mb
  ga : ∀ k, Xa.mine k → w0.heap.size ≤ k
  gb : ∀ k, Xb.mine k → w0.heap.size ≤ k
  dis : ∀ k, Xa.mine k → ¬ Xb.mine k
  bel : Below w0.heap.size w0 w

theorem Duo.swap {w0 w : World} {N : Cn} {Xa Xb : XLoc} {ma mb : Mh} (h : Duo w0 w N Xa Xb ma mb) : Duo w0 w N Xb Xa mb ma := ⟨h.b, h.a, h.gb, h.ga, fun k hb ha => h.dis k ha hb, h.bel⟩
theorem Duo.left {w0 w w' : World} {N : Cn} {Xa Xb Xa' : XLoc} {ma mb ma' : Mh} (h : Duo w0 w N Xa Xb ma mb) (hg : Goes w w' Xa Xa') (hM : MachM w' N Xa' ma') : Duo w0 w' N Xa' Xb ma' mb := by
  have hs := h.bel.size
  refine ⟨hM, h.b.aside hg (fun k hb ha => h.dis k ha hb), fun k hk => ?_, h.gb, fun k ha hb => ?_, h.bel.trans (hg.tch.below _ hs h.ga)⟩
  · by_cases c : k < w.heap.size
    · exact h.ga k (hg.lab k c hk)
    · omega
  · have c := h.b.labs.lt k hb
    exact h.dis k (hg.lab k c ha) hb
theorem Duo.right {w0 w w' : World} {N : Cn} {Xa Xb Xb' : XLoc} {ma mb mb' : Mh} (h : Duo w0 w N Xa Xb ma mb) (hg : Goes w w' Xb Xb') (hM : MachM w' N Xb' mb') : Duo w0 w' N Xa Xb' ma mb' := (h.swap.left hg hM).swap
theorem Duo.below {w0 w w' : World} {N : Cn} {Xa Xb : XLoc} {ma mb : Mh} (h : Duo w0 w N Xa Xb ma mb) (hb : Below w.heap.size w w') : Duo w0 w' N Xa Xb ma mb :=
  ⟨h.a.below hb (Nat.le_refl _), h.b.below hb (Nat.le_refl _), h.ga, h.gb, h.dis, below_step h.bel hb rfl⟩
/-- One machine, and one made behind it. -/
theorem Duo.make {w0 w w' : World} {x y : Cs} {l : Cl} {Xa Xb : XLoc} {ma mb : Mh} (hc : cnOf y.c = cnOf x.c) (h : KCtx w0 w x Xa ma) (k : KSt w w' y l Xb mb) : Duo w0 w' (cnOf x.c) Xa Xb ma mb := by
  have hs := h.bel.size
  refine ⟨h.mach.below k.bel (Nat.le_refl _), by rw [← hc]; exact k.mach, h.mine, fun b hb => by have := k.mine b hb; omega, fun b ha hb => ?_, below_step h.bel k.bel rfl⟩
  have h1 := h.mach.labs.lt b ha
  have h2 := k.mine b hb
  omega
end Go.Proofs.YtcmcfafhllpojaaGreat
