/-
  A case of wallskeep: its machine while a law runs.
-/
import Derived.Test.YtcmcfafhllpojaaGreatClKaseD
import Derived.Test.YtcmcfafhllpojaaGreatClPackV
namespace Go.Proofs.YtcmcfafhllpojaaGreat
open Go.RowKit

/-- The machine of a case, while a law runs that began in the world w. -/
structure KCtx (w wr : World) (x : Cs) (X : XLoc) (m : Mh) : Prop where
  mach : MachM wr (cnOf x.c) X m
  mine : ∀ b, X.mine b → w.heap.size ≤ b
  bel : Below w.heap.size w wr
theorem KCtx.goes {w wr wr' : World} {x : Cs} {X X' : XLoc} {m m' : Mh} (h : KCtx w wr x X m) (hg : Goes wr wr' X X') (hM : MachM wr' (cnOf x.c) X' m') : KCtx w wr' x X' m' := by
  have hs := h.bel.size
  refine ⟨hM, fun b hb => ?_, h.bel.trans (hg.tch.below _ hs h.mine)⟩
  by_cases c : b < wr.heap.size
  · exact h.mine b (hg.lab b c hb)
  · omega
theorem KCtx.below {w wr wr' : World} {x : Cs} {X : XLoc} {m : Mh} (h : KCtx w wr x X m) (hb : Below wr.heap.size wr wr') : KCtx w wr' x X m :=
  ⟨h.mach.below hb (Nat.le_refl _), h.mine, below_step h.bel hb rfl⟩
theorem KSt.ctx {w wr : World} {x : Cs} {l : Cl} {X : XLoc} {m : Mh} (h : KSt w wr x l X m) : KCtx w wr x X m := ⟨h.mach, fun b hb => by have := h.mine b hb; omega, h.bel⟩

theorem runs_zero (N : Cn) (m : Mh) : Mh.runs N 0 m = m := rfl

/-- A trace as it is told. -/
theorem trace_at {w : World} {N : Cn} {m : Mh} {d : Nat} (hd : (d : Int) < N.c.domains) (hl : (m.tr d).length ≤ 192) : EvsAt (traceW N m d w) (some ⟨w.heap.size, 0, none⟩) (m.tr d).length (m.tr d).length (m.tr d) ∧ traceV N m d w.heap.size = .slice (some ⟨w.heap.size, 0, none⟩) (m.tr d).length (m.tr d).length ∧ traceME N d = 0 ∧ Below w.heap.size w (traceW N m d w) := by
  have hno : ¬ ((d : Int) < 0 ∨ N.c.domains ≤ (d : Int)) := by omega
  have e1 : traceW N m d w = w.alloc (.cells ((m.tr d).flatMap eventL).toArray 88) := by
    unfold traceW; rw [if_neg hno, Int.toNat_natCast]
  refine ⟨?_, by unfold traceV; rw [if_neg hno, Int.toNat_natCast], by unfold traceME; rw [if_neg hno], by rw [e1]; exact (Below.refl _ _).alloc (Nat.le_refl _) _⟩
  rw [e1]
  have hrow : Row (w.alloc (.cells ((m.tr d).flatMap eventL).toArray 88)) w.heap.size ((m.tr d).flatMap eventL) 88 := heap_alloc_new w _
  have flat : ∀ (es : List Ev) (i j : Nat), i < es.length → j < 6 → (es.flatMap eventL)[i * 6 + j]? = (eventL (es.getD i evZ))[j]? := by
    intro es
    induction es with
    | nil => intro i j hi; simp at hi
    | cons e es ih =>
      intro i j hi hj
      rw [List.flatMap_cons]
      have hl6 : (eventL e).length = 6 := rfl
      cases i with
      | zero =>
        rw [List.getElem?_append_left (by rw [hl6]; omega)]
        simp
      | succ i =>
        rw [List.getElem?_append_right (by rw [hl6]; omega), hl6, show (i + 1) * 6 + j - 6 = i * 6 + j by omega, ih i j (by simpa using hi) hj]
        simp
  refine ⟨rfl, Nat.le_refl _, by unfold maxLen; omega, fun i hi => ⟨w.heap.size, 0, rfl, ?_⟩⟩
  have c := fun j (hj : j < 6) => (hrow.cell (i * 6 + j)).trans (flat (m.tr d) i j hi hj)
  refine ⟨?_, ?_, ?_, ?_, ?_, ?_⟩
  · rw [Nat.zero_add]; exact c 0 (by omega)
  · rw [Nat.zero_add]; exact c 1 (by omega)
  · rw [Nat.zero_add]; exact c 2 (by omega)
  · rw [Nat.zero_add]; exact c 3 (by omega)
  · rw [Nat.zero_add]; exact c 4 (by omega)
  · rw [Nat.zero_add]; exact c 5 (by omega)

end Go.Proofs.YtcmcfafhllpojaaGreat
