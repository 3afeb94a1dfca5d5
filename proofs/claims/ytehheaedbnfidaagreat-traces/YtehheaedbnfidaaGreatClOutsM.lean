/-
  The lists that came out: the caller has written marks into all of their room.
-/
import Derived.Test.YtehheaedbnfidaaGreatClPackBK
namespace Go.Proofs.YtehheaedbnfidaaGreat
open Go.RowKit

def markL (mk : List Value) : Nat → List Value
  | 0 => []
  | l + 1 => mk ++ markL mk l

theorem markL_at (mk : List Value) (z : Nat) (hz : mk.length = z) : ∀ (l q r : Nat), q < l → r < z → (markL mk l)[q * z + r]? = mk[r]?
  | 0, q, r, hq, _ => by omega
  | l + 1, 0, r, _, hr => by
    rw [Nat.zero_mul, Nat.zero_add, markL, List.getElem?_append_left (by omega)]
  | l + 1, q + 1, r, hq, hr => by
    rw [markL, List.getElem?_append_right (by rw [hz, Nat.succ_mul]; omega), hz, show (q + 1) * z + r - z = q * z + r by rw [Nat.succ_mul]; omega]
    exact markL_at mk z hz l q r (by omega) hr

theorem markL_flat {α : Type} (f : α → List Value) (x : α) : ∀ l : Nat, (List.replicate l x).flatMap f = markL (f x) l
  | 0 => rfl
  | l + 1 => by rw [List.replicate_succ, List.flatMap_cons, markL_flat f x l, markL]

structure Outs (w : World) (base : Nat) (rt et : TypeId) (mark : Nat → List Value) (v : Value) (n : Nat) (a : Nat → Option Addr) (l : Nat → Nat) : Prop where
  row : w.ownsRow base rt 1 v n ((List.range n).map fun i => .slice (a i) (l i) (l i))
  bnd : ∀ i, i < n → l i ≤ 9223372036854775807
  sat : ∀ i, i < n → l i ≠ 0 → ∃ g, a i = some ⟨g, 0, none⟩ ∧ base ≤ g ∧ Row w g (markL (mark i) (l i)) et

/-- Their blocks. -/
def OB (v : Value) (n : Nat) (a : Nat → Option Addr) (l : Nat → Nat) (b : Nat) : Prop := v.ownBlock = some b ∨ ∃ i, i < n ∧ l i ≠ 0 ∧ a i = some ⟨b, 0, none⟩

theorem Outs.nil (w : World) (base : Nat) (rt et : TypeId) (mark : Nat → List Value) (a : Nat → Option Addr) (l : Nat → Nat) : Outs w base rt et mark (.slice none 0 0) 0 a l :=
  ⟨World.ownsRow_nil _ _ _ _, fun i hi => by omega, fun i hi => by omega⟩
theorem OB.nil {a : Nat → Option Addr} {l : Nat → Nat} {b : Nat} : ¬ OB (.slice none 0 0) 0 a l b := by
  rintro (h | ⟨i, hi, _⟩)
  · simp [Value.ownBlock] at h
  · omega

theorem Outs.same {w w' : World} {base : Nat} {rt et : TypeId} {mark : Nat → List Value} {v : Value} {n : Nat} {a : Nat → Option Addr} {l : Nat → Nat} (h : Outs w base rt et mark v n a l) (hs : ∀ b, OB v n a l b → w'.heap[b]? = w.heap[b]?) : Outs w' base rt et mark v n a l :=
  ⟨owns_same h.row (fun g hg => hs g (Or.inl hg)), h.bnd, fun i hi hl => by
    obtain ⟨g, e, hb, hr⟩ := h.sat i hi hl
    exact ⟨g, e, hb, hr.same (hs g (Or.inr ⟨i, hi, hl, e⟩))⟩⟩

theorem Outs.lt {w : World} {base : Nat} {rt et : TypeId} {mark : Nat → List Value} {v : Value} {n : Nat} {a : Nat → Option Addr} {l : Nat → Nat} (h : Outs w base rt et mark v n a l) {b : Nat} (hb : OB v n a l b) : base ≤ b ∧ b < w.heap.size := by
  rcases hb with hb | ⟨i, hi, hl, e⟩
  · exact ⟨(owns_lt h.row b hb).2, (owns_lt h.row b hb).1⟩
  · obtain ⟨g, e', hg, hr⟩ := h.sat i hi hl
    rw [e] at e'
    simp only [Option.some.injEq, Addr.mk.injEq, and_true] at e'
    subst e'
    exact ⟨hg, hr.lt⟩
theorem Outs.below {w w' : World} {base : Nat} {rt et : TypeId} {mark : Nat → List Value} {v : Value} {n : Nat} {a : Nat → Option Addr} {l : Nat → Nat} (h : Outs w base rt et mark v n a l) (hb : Below w.heap.size w w') : Outs w' base rt et mark v n a l :=
  h.same (fun b q => hb.block b (h.lt q).2)
/-- A block of another kind is none of theirs. -/
theorem Outs.not {w : World} {base : Nat} {rt et : TypeId} {mark : Nat → List Value} {v : Value} {n : Nat} {a : Nat → Option Addr} {l : Nat → Nat} (h : Outs w base rt et mark v n a l) {g : Nat} {A : List Value} {t : TypeId} (hr : Row w g A t) (h1 : t ≠ rt) (h2 : t ≠ et) : ¬ OB v n a l g := by
  rintro (hb | ⟨i, hi, hl, e⟩)
  · exact own_ne h.row hr h1 hb
  · obtain ⟨g', e', hg, hr'⟩ := h.sat i hi hl
    rw [e] at e'
    simp only [Option.some.injEq, Addr.mk.injEq, and_true] at e'
    subst e'
    exact h2 (row_type hr hr')

/-- One more. -/
theorem Outs.more {w wX w8 : World} {base gg cap : Nat} {rt et : TypeId} {mark : Nat → List Value} {v : Value} {n : Nat} {a : Nat → Option Addr} {l : Nat → Nat} (h : Outs w base rt et mark v n a l) (hne : et ≠ rt) (hbX : Below w.heap.size w wX) (hgrow : wX.grownBy w8 v.ownBlock) {a' : Option Addr} {l' : Nat}
    (hown : w8.ownsRow base rt 1 (.slice (some ⟨gg, 0, none⟩) (n + 1) cap) (n + 1) (((List.range n).map fun i => .slice (a i) (l i) (l i)) ++ [.slice a' l' l'])) (hl : l' ≤ 9223372036854775807) (hnew : l' ≠ 0 → ∃ g, a' = some ⟨g, 0, none⟩ ∧ base ≤ g ∧ Row w g (markL (mark n) l') et) :
    Outs w8 base rt et mark (.slice (some ⟨gg, 0, none⟩) (n + 1) cap) (n + 1) (upd a n a') (upd l n l') := by
  have sX := hbX.size
  have keep : ∀ {g A}, Row w g A et → Row w8 g A et := fun hr => by
    refine hr.same ((hgrow.block _ (Nat.lt_of_lt_of_le hr.lt sX) (fun q => own_ne h.row hr hne q.symm)).trans (hbX.block _ hr.lt))
  refine ⟨?_, fun i hi => ?_, fun i hi hli => ?_⟩
  · have e : ((List.range (n + 1)).map fun i => Value.slice (upd a n a' i) (upd l n l' i) (upd l n l' i)) = ((List.range n).map fun i => .slice (a i) (l i) (l i)) ++ [.slice a' l' l'] := by
      rw [List.range_succ, List.map_append]
      congr 1
      · apply List.map_congr_left
        intro i hi
        have := List.mem_range.1 hi
        rw [upd_ne _ _ (by omega), upd_ne _ _ (by omega)]
      · simp [upd_at]
    rw [e]
    exact hown
  · by_cases q : i = n
    · subst q; rw [upd_at]; exact hl
    · rw [upd_ne _ _ q]; exact h.bnd i (by omega)
  · by_cases q : i = n
    · subst q
      rw [upd_at] at hli
      rw [upd_at, upd_at]
      obtain ⟨g, e1, e2, e3⟩ := hnew hli
      exact ⟨g, e1, e2, keep e3⟩
    · rw [upd_ne _ _ q] at hli
      rw [upd_ne _ _ q, upd_ne _ _ q]
      obtain ⟨g, e1, e2, e3⟩ := h.sat i (by omega) hli
      exact ⟨g, e1, e2, keep e3⟩
/-- Its blocks are those that there were, or new. -/
theorem OB.more {v : Value} {n gg cap H : Nat} {a : Nat → Option Addr} {l : Nat → Nat} {a' : Option Addr} {l' b : Nat} (hat : v.ownBlock = some gg ∨ H ≤ gg) (hnew : ∀ g, l' ≠ 0 → a' = some ⟨g, 0, none⟩ → H ≤ g) (hb : b < H) (h : OB (.slice (some ⟨gg, 0, none⟩) (n + 1) cap) (n + 1) (upd a n a') (upd l n l') b) : OB v n a l b := by
  rcases h with q | ⟨i, hi, hl, e⟩
  · have : gg = b := by simpa [Value.ownBlock] using q
    subst this
    rcases hat with r | r
    · exact Or.inl r
    · omega
  · by_cases q : i = n
    · subst q
      rw [upd_at] at hl e
      have := hnew b hl e
      omega
    · rw [upd_ne _ _ q] at hl e
      exact Or.inr ⟨i, by omega, hl, e⟩

/-- What a call that gives a list leaves of the rest. -/
theorem MI.out {W w w' : World} {o : Own} {e p b e' p' b' : Value} {ts : List Int} {os : List (Int × Int × Int)} {zone : Nat → Option Nat} {n : Nat} {X : Nat → XLoc} {m : Nat → Mh} {L : Nat → RLoc} {M : Nat → RDat} {ma : Option Addr} {mc : Nat} (h : MI W w o e p b ts os zone n X m L M ma mc) {K : Nat → Prop}
    (hr : Row w' W.heap.size (ownL o (.slice ma n mc) e' p' b') 34) (hT : Touch (fun g => g = W.heap.size ∨ K g) w w') (hK : ∀ g, K g → W.heap.size ≤ g ∧ ¬ MZ W.heap.size o zone (.slice ma n mc) g) : MI W w' o e' p' b' ts os zone n X m L M ma mc := by
  have keep : ∀ g, MZ W.heap.size o zone (.slice ma n mc) g → g ≠ W.heap.size → w'.heap[g]? = w.heap[g]? := fun g hz hne => hT.block g (h.lt hz) (fun q => by
    rcases q with q | q
    · exact hne q
    · exact (hK g q).2 hz)
  refine ⟨⟨hr, h.ws.hb, owns_same h.ws.tou (fun g hg => keep g (Or.inr (Or.inl (Or.inr (Or.inl hg)))) (fun q => by subst q; exact own_ne h.ws.tou h.ws.row (by decide) hg)), owns_same h.ws.ops (fun g hg => keep g (Or.inr (Or.inl (Or.inr (Or.inr hg)))) (fun q => by subst q; exact own_ne h.ws.ops h.ws.row (by decide) hg))⟩, h.ms.keep hT.size (fun g hz => keep g (Or.inl hz) (fun q => hz (h.zu g (Or.inl q)))), owns_same h.own (fun g hg => keep g (Or.inr (Or.inr hg)) (fun q => by subst q; exact own_ne h.own h.ws.row (by decide) hg)), h.zu, h.zm, h.bel.trans (hT.below _ h.bel.size (fun g q => ?_))⟩
  rcases q with q | q
  · omega
  · exact (hK g q).1

/-- A list came out, and was kept. -/
theorem Outs.done {W w wv wX w8 : World} {o : Own} {e p b v : Value} {ts : List Int} {os : List (Int × Int × Int)} {zone : Nat → Option Nat} {n : Nat} {X : Nat → XLoc} {m : Nat → Mh} {L : Nat → RLoc} {M : Nat → RDat} {ma : Option Addr} {mc : Nat} (h : MI W w o e p b ts os zone n X m L M ma mc)
    {rt et : TypeId} {mark : Nat → List Value} {en gg cap f : Nat} {a : Nat → Option Addr} {l : Nat → Nat} (hE : Outs w W.heap.size rt et mark v en a l) (hne : et ≠ rt) (hw1 : 34 ≠ rt) (hw2 : 34 ≠ et)
    (hv : Below w.heap.size w wv) {a' : Option Addr} {l' : Nat} (hl : l' ≤ 9223372036854775807) (hnew : l' ≠ 0 → ∃ g, a' = some ⟨g, 0, none⟩ ∧ w.heap.size ≤ g ∧ Row wv g (markL (mark en) l') et) (hbX : Below wv.heap.size wv wX) (hgrow : wX.grownBy w8 v.ownBlock)
    (hown : w8.ownsRow W.heap.size rt 1 (.slice (some ⟨gg, 0, none⟩) (en + 1) cap) (en + 1) (((List.range en).map fun i => .slice (a i) (l i) (l i)) ++ [.slice a' l' l'])) (hat : v.ownBlock = some gg ∨ w.heap.size ≤ gg) :
    Row (w8.setCell ⟨W.heap.size, f, none⟩ (.slice (some ⟨gg, 0, none⟩) (en + 1) cap)) W.heap.size ((ownL o (.slice ma n mc) e p b).set f (.slice (some ⟨gg, 0, none⟩) (en + 1) cap)) 34 ∧
    Outs (w8.setCell ⟨W.heap.size, f, none⟩ (.slice (some ⟨gg, 0, none⟩) (en + 1) cap)) W.heap.size rt et mark (.slice (some ⟨gg, 0, none⟩) (en + 1) cap) (en + 1) (upd a en a') (upd l en l') ∧
    Touch (fun g => g = W.heap.size ∨ v.ownBlock = some g) w (w8.setCell ⟨W.heap.size, f, none⟩ (.slice (some ⟨gg, 0, none⟩) (en + 1) cap)) ∧
    ∀ g, g < w.heap.size → OB (.slice (some ⟨gg, 0, none⟩) (en + 1) cap) (en + 1) (upd a en a') (upd l en l') g → OB v en a l g := by
  have sv := hv.size
  have sX := hbX.size
  have s8 := hgrow.size
  have hWw := h.bel.size
  have Ev : Outs wv W.heap.size rt et mark v en a l := hE.same (fun g hg => hv.block g (hE.lt hg).2)
  have rw0 := h.ws.row
  have rv : Row wv W.heap.size (ownL o (.slice ma n mc) e p b) 34 := rw0.same (hv.block _ rw0.lt)
  have rX : Row wX W.heap.size (ownL o (.slice ma n mc) e p b) 34 := rv.same (hbX.block _ rv.lt)
  have ag : v.ownBlock ≠ some W.heap.size := own_ne hE.row rw0 hw1
  have r8 : Row w8 W.heap.size (ownL o (.slice ma n mc) e p b) 34 := rX.same (hgrow.block _ rX.lt (fun q => ag q.symm))
  have E8 := Ev.more hne hbX hgrow hown hl (fun q => by
    obtain ⟨g, e1, e2, e3⟩ := hnew q
    exact ⟨g, e1, by omega, e3⟩)
  refine ⟨r8.setCell f _, E8.same (fun g hg => Below.heap_setCell _ _ _ _ (fun q => ?_)), ⟨?_, ?_, ?_, ?_, fun g hg hf => ?_⟩, fun g hg hq => OB.more (H := w.heap.size) hat (fun g2 q1 q2 => ?_) hg hq⟩
  · have q' : g = W.heap.size := q
    subst q'
    exact E8.not r8 hw1 hw2 hg
  · exact hgrow.os.trans (hbX.os.trans hv.os)
  · exact hgrow.tape.trans (hbX.tape.trans hv.tape)
  · exact hgrow.output.trans (hbX.output.trans hv.output)
  · show w.heap.size ≤ (w8.setCell ⟨W.heap.size, f, none⟩ (.slice (some ⟨gg, 0, none⟩) (en + 1) cap)).heap.size
    have : (w8.setCell ⟨W.heap.size, f, none⟩ (.slice (some ⟨gg, 0, none⟩) (en + 1) cap)).heap.size = w8.heap.size := by simp [World.setCell]
    omega
  · rw [Below.heap_setCell _ _ _ _ (fun q => hf (Or.inl q)), hgrow.block g (by omega) (fun q => hf (Or.inr q.symm)), hbX.block g (by omega), hv.block g hg]
  · obtain ⟨g3, e1, e2, _⟩ := hnew q1
    rw [q2] at e1
    simp only [Option.some.injEq, Addr.mk.injEq, and_true] at e1
    omega
end Go.Proofs.YtehheaedbnfidaaGreat
