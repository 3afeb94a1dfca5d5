/-
  One domain's play: its beginning.
-/
import Derived.Test.YtehheaedbnfidaaGreatClRefSD
import Derived.Test.YtehheaedbnfidaaGreatClRefN
namespace Go.Proofs.YtehheaedbnfidaaGreat
open Go.RowKit

/-- Four equal rows, and the play's own. -/
theorem play_start {w : World} {L : RLoc} {M : RDat} {d n gn gf gb gh : Nat} (h : RefM w L M) (hc : CfgAt w M.c M.s) (hd : d < L.nd) (hn : n = M.c.cores.toNat)
    (h1 : w.heap.size ≤ gn ∧ gn < w.heap.size + 4) (h2 : w.heap.size ≤ gf ∧ gf < w.heap.size + 4) (h3 : w.heap.size ≤ gb ∧ gb < w.heap.size + 4) (h4 : w.heap.size ≤ gh ∧ gh < w.heap.size + 4)
    (hx : gn ≠ gf ∧ gn ≠ gb ∧ gn ≠ gh ∧ gf ≠ gb ∧ gf ≠ gh ∧ gb ≠ gh) :
    Ctx w (((((w.alloc (.cells (List.replicate n (Value.int .i64 0)).toArray 3)).alloc (.cells (List.replicate n (Value.int .i64 0)).toArray 3)).alloc (.cells (List.replicate n (Value.int .i64 0)).toArray 3)).alloc (.cells (List.replicate n (Value.int .i64 0)).toArray 3)).alloc (.cells (soloL ⟨w.heap.size + 4, L.gr, d, none, 0, 0, none, 0, 0, gn, gf, gb, gh, n, none, 0, 0⟩).toArray 126)).drew
      w.heap.size ⟨w.heap.size + 4, L.gr, d, none, 0, 0, none, 0, 0, gn, gf, gb, gh, n, none, 0, 0⟩ L M (So.start n) := by
  obtain ⟨Z, hZ⟩ : ∃ Z, Obj.cells (List.replicate n (Value.int .i64 0)).toArray 3 = Z := ⟨_, rfl⟩
  rw [hZ]
  have b0 : Below w.heap.size w (w.alloc Z) := (Below.refl _ _).alloc (Nat.le_refl _) _
  have b1 : Below w.heap.size w ((w.alloc Z).alloc Z) := b0.alloc b0.size _
  have b2 : Below w.heap.size w (((w.alloc Z).alloc Z).alloc Z) := b1.alloc b1.size _
  have b3 : Below w.heap.size w ((((w.alloc Z).alloc Z).alloc Z).alloc Z) := b2.alloc b2.size _
  have q0 : Row (w.alloc Z) w.heap.size (List.replicate n (Value.int .i64 0)) 3 := by rw [← hZ]; exact heap_alloc_new w _
  have q1 : Row ((w.alloc Z).alloc Z) (w.heap.size + 1) (List.replicate n (Value.int .i64 0)) 3 := by
    have e : (w.alloc Z).heap.size = w.heap.size + 1 := by simp
    rw [← e]
    conv => arg 1; arg 2; rw [← hZ]
    exact heap_alloc_new (w.alloc Z) _
  have q2 : Row (((w.alloc Z).alloc Z).alloc Z) (w.heap.size + 2) (List.replicate n (Value.int .i64 0)) 3 := by
    have e : ((w.alloc Z).alloc Z).heap.size = w.heap.size + 2 := by simp
    rw [← e]
    conv => arg 1; arg 2; rw [← hZ]
    exact heap_alloc_new ((w.alloc Z).alloc Z) _
  have q3 : Row ((((w.alloc Z).alloc Z).alloc Z).alloc Z) (w.heap.size + 3) (List.replicate n (Value.int .i64 0)) 3 := by
    have e : (((w.alloc Z).alloc Z).alloc Z).heap.size = w.heap.size + 3 := by simp
    rw [← e]
    conv => arg 1; arg 2; rw [← hZ]
    exact heap_alloc_new (((w.alloc Z).alloc Z).alloc Z) _
  have e4 : ((((w.alloc Z).alloc Z).alloc Z).alloc Z).heap.size = w.heap.size + 4 := by simp
  have rr : ∀ g, w.heap.size ≤ g → g < w.heap.size + 4 → Row ((((w.alloc Z).alloc Z).alloc Z).alloc Z) g (List.replicate n (Value.int .i64 0)) 3 := fun g g1 g2 => by
    have : g = w.heap.size ∨ g = w.heap.size + 1 ∨ g = w.heap.size + 2 ∨ g = w.heap.size + 3 := by omega
    rcases this with rfl | rfl | rfl | rfl
    · exact Row.alloc (Row.alloc (Row.alloc q0 _) _) _
    · exact Row.alloc (Row.alloc q1 _) _
    · exact Row.alloc q2 _
    · exact q3
  generalize (((w.alloc Z).alloc Z).alloc Z).alloc Z = W at *
  have hm : (List.replicate n (0 : Int)).map (Value.int .i64) = List.replicate n (.int .i64 0) := by simp
  have r4 : Row (W.alloc (.cells (soloL ⟨w.heap.size + 4, L.gr, d, none, 0, 0, none, 0, 0, gn, gf, gb, gh, n, none, 0, 0⟩).toArray 126)) (w.heap.size + 4) (soloL ⟨w.heap.size + 4, L.gr, d, none, 0, 0, none, 0, 0, gn, gf, gb, gh, n, none, 0, 0⟩) 126 := by
    rw [← e4]
    exact heap_alloc_new W _
  have hb4 := (b3.alloc b3.size (.cells (soloL ⟨w.heap.size + 4, L.gr, d, none, 0, 0, none, 0, 0, gn, gf, gb, gh, n, none, 0, 0⟩).toArray 126)).drew
  refine ⟨⟨r4, by show w.heap.size ≤ w.heap.size + 4; omega, World.ownsRow_nil _ _ _ _, rfl, World.ownsRow_nil _ _ _ _, rfl, ?_, by simp [So.start], h1.1, ?_, by simp [So.start], h2.1, ?_, by simp [So.start], h3.1, ?_, by simp [So.start], h4.1, hx, ⟨rfl, Or.inl ⟨rfl, rfl, rfl⟩⟩⟩, hb4, fun w' hw => ⟨h.below hw (Nat.le_refl _), hc.below hw (Nat.le_refl _)⟩, rfl, hd, hn⟩
  · show Row _ gn ((List.replicate n (0 : Int)).map (Value.int .i64)) 3
    rw [hm]; exact Row.alloc (rr gn h1.1 h1.2) _
  · show Row _ gf ((List.replicate n (0 : Int)).map (Value.int .i64)) 3
    rw [hm]; exact Row.alloc (rr gf h2.1 h2.2) _
  · show Row _ gb ((List.replicate n (0 : Int)).map (Value.int .i64)) 3
    rw [hm]; exact Row.alloc (rr gb h3.1 h3.2) _
  · show Row _ gh ((List.replicate n (0 : Int)).map (Value.int .i64)) 3
    rw [hm]; exact Row.alloc (rr gh h4.1 h4.2) _
end Go.Proofs.YtehheaedbnfidaaGreat
