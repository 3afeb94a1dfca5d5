/-
  'copy' into a block made last, elements of any size.
-/
import Derived.Test.YtehheaedbnfidaaGreatClPackA
import Derived.Laws.CopyRow
import Derived.Laws.Append
namespace Go.Proofs.YtehheaedbnfidaaGreat
open Go.RowKit

theorem run_copy_size {P : Program} (w0 : World) (dT sT oT : TypeId) (elem : TypeId) (sz : Nat) (hu : P.underlying dT = some (.slice elem)) (hsz : (P.info? elem).map (·.size) = some sz)
    (sp : Option Addr) (n dCap sCap : Nat)
    (cur : List Value) (t : TypeId) (cs : List Value) (hn : cs.length = n * sz)
    (hpos : 0 < n → ∃ ad, sp = some ad ∧ ∀ j v, cs[j]? = some v → (w0.alloc (.cells cur.toArray t)).cell? (ad.add j) = some v)
    (hfit : cs.length ≤ cur.length) (h1 : ∀ v ∈ cs, v.oneCell' = true) :
    (Builtin.copy_ #[dT, sT] oT #[.slice (some ⟨w0.heap.size, 0, none⟩) n dCap, .slice sp n sCap]).run P (w0.alloc (.cells cur.toArray t)) = .ok (goInt n) (w0.alloc (.cells (cs ++ cur.drop cs.length).toArray t)) := by
  cases hq : P.info? elem with
  | none => simp [hq] at hsz
  | some i =>
    have hi : i.size = sz := by simpa [hq] using hsz
    by_cases hz : n = 0
    · subst hz
      have hc : cs = [] := List.eq_nil_of_length_eq_zero (by simpa using hn)
      subst hc
      cases sp with
      | none => simp [Builtin.copy_, run_underlying hu, Builtin.lenOf, Builtin.firstCells, sizeOf, typeInfo, hq, storeCells]
      | some a =>
        have hl : (loadCells a 0).run P (w0.alloc (.cells cur.toArray t)) = .ok #[] (w0.alloc (.cells cur.toArray t)) := by simpa using run_loadCells_list (P := P) (w0.alloc (.cells cur.toArray t)) a [] (by simp)
        simp [Builtin.copy_, run_underlying hu, Builtin.lenOf, Builtin.firstCells, sizeOf, typeInfo, hq, storeCells, hl]
    · obtain ⟨ad, rfl, hsrc⟩ := hpos (by omega)
      have hl := run_loadCells_list (P := P) (w0.alloc (.cells cur.toArray t)) ad cs hsrc
      rw [hn] at hl
      have hst := run_storeCells_at P w0.heap.size 0 t cs 0 cur.toArray (w0.alloc (.cells cur.toArray t)) (heap_alloc_new w0 _) (by simpa using hfit) h1
      rw [alloc_setRow] at hst
      simp [Builtin.copy_, run_underlying hu, Builtin.lenOf, Builtin.firstCells, sizeOf, typeInfo, hq, hi, hl, hst]

theorem made_size (A : Array Value) (n : Nat) : (madeCells A n).size = n := by simp [madeCells]

/-- 'make' and 'copy' of as many elements: the world. -/
theorem run_copy_made {P : Program} (w0 : World) (dT sT oT : TypeId) (elem : TypeId) (sz : Nat) (hu : P.underlying dT = some (.slice elem)) (hsz : (P.info? elem).map (·.size) = some sz)
    (sp : Option Addr) (n dCap sCap : Nat) (A : Array Value) (t : TypeId) (cs : List Value) (hn : cs.length = n * sz)
    (hpos : 0 < n → ∃ ad, sp = some ad ∧ ∀ j v, cs[j]? = some v → w0.cell? (ad.add j) = some v) (h1 : ∀ v ∈ cs, v.oneCell' = true) :
    (Builtin.copy_ #[dT, sT] oT #[.slice (some ⟨w0.heap.size, 0, none⟩) n dCap, .slice sp n sCap]).run P (w0.alloc (.cells (madeCells A (n * sz)) t)) = .ok (goInt n) (w0.alloc (.cells cs.toArray t)) := by
  have hs : (madeCells A (n * sz)).toList.length = n * sz := by rw [Array.length_toList, made_size]
  have := run_copy_size (P := P) w0 dT sT oT elem sz hu hsz sp n dCap sCap (madeCells A (n * sz)).toList t cs hn (fun h0 => by
    obtain ⟨ad, e, hc⟩ := hpos h0
    refine ⟨ad, e, fun j v hj => ?_⟩
    have h2 := hc j v hj
    rw [← h2]
    have hlt := cell_lt h2
    exact Below.cell ((Below.refl w0.heap.size w0).alloc (Nat.le_refl _) _) hlt) (by rw [hn, hs]; exact Nat.le_refl _) h1
  rw [hn, List.drop_of_length_le (by rw [hs]; exact Nat.le_refl _), List.append_nil, Array.toArray_toList] at this
  exact this
end Go.Proofs.YtehheaedbnfidaaGreat
