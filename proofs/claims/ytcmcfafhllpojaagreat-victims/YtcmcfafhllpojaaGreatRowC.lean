/-
  Blocks that are rows of cells; rows that a value owns.
-/
import Derived.Test.YtcmcfafhllpojaaGreatProg
import Derived.Test.YtcmcfafhllpojaaGreatHeap
namespace Go.Proofs.YtcmcfafhllpojaaGreat
open Go.RowKit

theorem Tryz.infoInt : (Tryz.prog.info? 3).map (fun i => (i.zero, i.size, i.bytes)) = some (some (.int .i64 0), 1, 8) := by kernel_rfl
theorem Tryz.infoInt1 : (Tryz.prog.info? 3).map (·.size) = some 1 := by kernel_rfl

theorem made_int (n : Nat) : madeCells (Value.int .i64 0).cells n = (List.replicate n (Value.int .i64 0)).toArray := by
  apply Array.ext_getElem?
  intro i
  simp only [madeCells, Value.cells, Array.getElem?_map]
  by_cases h : i < n
  · simp [h, Nat.mod_one]
  · simp [h]

theorem Ints.src {w : World} {a : Addr} {len cap : Nat} {xs : List Int} (h : Ints w (some a) len cap xs) (o : Obj) :
    ∀ j v, (xs.map (Value.int .i64))[j]? = some v → (w.alloc o).cell? (a.add j) = some v := by
  intro j v hj
  have hlt : j < xs.length := by
    have := (List.getElem?_eq_some_iff.1 hj).1
    simpa using this
  obtain ⟨b, off, h1, h2⟩ := (h.alloc o).hat j (by rw [← h.hlen]; exact hlt)
  simp only [Option.some.injEq] at h1
  subst h1
  rw [add_plain', h2]
  rw [List.getElem?_map] at hj
  simp [List.getElem?_eq_getElem hlt] at hj
  simp [List.getD, List.getElem?_eq_getElem hlt, hj]

/-- Block g is a row of these cells, none frozen. -/
def Row (w : World) (g : Nat) (A : List Value) (t : TypeId) : Prop := w.heap[g]? = some (.cells A.toArray t (0, 0))

theorem Row.cell {w : World} {g : Nat} {A : List Value} {t : TypeId} (h : Row w g A t) (i : Nat) : w.cell? ⟨g, i, none⟩ = A[i]? := by
  simp only [World.cell?]; rw [h]; simp
theorem Row.frozen {w : World} {g : Nat} {A : List Value} {t : TypeId} (h : Row w g A t) (i : Nat) : w.frozen? ⟨g, i, none⟩ = false := by
  simp only [World.frozen?]; rw [h]; simp
theorem Row.lt {w : World} {g : Nat} {A : List Value} {t : TypeId} (h : Row w g A t) : g < w.heap.size := (Array.getElem?_eq_some_iff.1 h).1
theorem Row.below {w w' : World} {g n : Nat} {A : List Value} {t : TypeId} (h : Row w g A t) (hb : Below n w w') (hg : g < n) : Row w' g A t := by
  unfold Row; rw [hb.block g hg]; exact h
theorem Row.alloc {w : World} {g : Nat} {A : List Value} {t : TypeId} (h : Row w g A t) (o : Obj) : Row (w.alloc o) g A t := by
  unfold Row; rw [Below.heap_alloc w o g h.lt]; exact h

theorem setRow_setRow (w : World) (g : Nat) (A B : Array Value) : (w.setRow g A).setRow g B = w.setRow g B := by
  unfold World.setRow
  congr 1
  apply Array.ext_getElem?
  intro i
  simp only [Array.getElem?_modify]
  by_cases h : g = i
  · subst h
    cases hq : w.heap[g]? with
    | none => simp
    | some o => cases o <;> simp
  · simp [h]

theorem setRow_setCell (w : World) (g : Nat) (A : Array Value) (i : Nat) (v : Value) : (w.setRow g A).setCell ⟨g, i, none⟩ v = w.setRow g (A.setIfInBounds i v) := by
  unfold World.setRow World.setCell
  congr 1
  apply Array.ext_getElem?
  intro j
  simp only [Array.getElem?_modify]
  by_cases h : g = j
  · subst h
    simp only [if_true, Option.map_map]
    congr 1
    funext o
    cases o <;> rfl
  · simp [h]

theorem Row.set {w : World} {g : Nat} {A B : List Value} {t : TypeId} (h : Row w g A t) : Row (w.setRow g B.toArray) g B t := setRow_heap w g _ _ t _ h
theorem Row.setSame {w : World} {g : Nat} {A : List Value} {t : TypeId} (h : Row w g A t) : w.setRow g A.toArray = w := by
  have e : (w.setRow g A.toArray).heap = w.heap := by
    apply Array.ext_getElem?
    intro i
    by_cases hi : i = g
    · subst hi
      rw [h.set]
      exact h.symm
    · exact setRow_other w g i _ hi
  cases w
  simpa [World.setRow] using e
theorem Row.setOther {w : World} {g k : Nat} {A : List Value} {B : Array Value} {t : TypeId} (h : Row w k A t) (hk : k ≠ g) : Row (w.setRow g B) k A t := by
  unfold Row; rw [setRow_other w g k B hk]; exact h

theorem Row.setCell {w : World} {g : Nat} {A : List Value} {t : TypeId} (h : Row w g A t) (i : Nat) (v : Value) : Row (w.setCell ⟨g, i, none⟩ v) g (A.set i v) t := by
  have e := h.setSame
  rw [← e, setRow_setCell]
  have h2 : Row (w.setRow g A.toArray) g A t := h.set
  have := h.set (B := A.set i v)
  simpa using this

theorem Row.setCellOther {w : World} {g k : Nat} {A : List Value} {t : TypeId} (h : Row w k A t) (i : Nat) (v : Value) (hk : k ≠ g) : Row (w.setCell ⟨g, i, none⟩ v) k A t := by
  unfold Row; rw [Below.heap_setCell _ _ _ _ hk]; exact h

theorem own_ne {w : World} {base : Nat} {e t : TypeId} {size : Nat} {v : Value} {n : Nat} {xs : List Value} {g : Nat} {A : List Value} (h : w.ownsRow base e size v n xs) (hr : Row w g A t) (ht : t ≠ e) : v.ownBlock ≠ some g := by
  rcases h.2 with ⟨h1, _⟩ | ⟨g', cap, cur, hv, _, hg, _⟩
  · subst h1; simp [Value.ownBlock]
  · subst hv
    simp only [Value.ownBlock, ne_eq, Option.some.injEq]
    intro e1
    subst e1
    unfold Row at hr
    rw [hr] at hg
    simp only [Option.some.injEq, Obj.cells.injEq] at hg
    exact ht hg.2.1

theorem owns_same {w w' : World} {base : Nat} {e : TypeId} {size : Nat} {v : Value} {n : Nat} {xs : List Value} (h : w.ownsRow base e size v n xs) (hs : ∀ g, v.ownBlock = some g → w'.heap[g]? = w.heap[g]?) : w'.ownsRow base e size v n xs := by
  refine ⟨h.1, ?_⟩
  rcases h.2 with h2 | ⟨g, cap, cur, hv, hg, hh, r⟩
  · exact Or.inl h2
  · refine Or.inr ⟨g, cap, cur, hv, hg, ?_, r⟩
    rw [hs g (by rw [hv]; rfl)]
    exact hh

theorem owns_lt {w : World} {base : Nat} {e : TypeId} {size : Nat} {v : Value} {n : Nat} {xs : List Value} (h : w.ownsRow base e size v n xs) : ∀ g, v.ownBlock = some g → g < w.heap.size ∧ base ≤ g := by
  intro g hg
  rcases h.2 with ⟨h1, _⟩ | ⟨g', cap, cur, hv, hb, hh, _⟩
  · subst h1; simp [Value.ownBlock] at hg
  · subst hv
    simp only [Value.ownBlock, Option.some.injEq] at hg
    subst hg
    exact ⟨(Array.getElem?_eq_some_iff.1 hh).1, hb⟩

/-- Two rows of different kinds are two rows. -/
theorem owns_apart {w : World} {base base' : Nat} {e e' : TypeId} {size size' : Nat} {v v' : Value} {n n' : Nat} {xs xs' : List Value} (h : w.ownsRow base e size v n xs) (h' : w.ownsRow base' e' size' v' n' xs') (ht : e ≠ e') : ∀ g, v.ownBlock = some g → v'.ownBlock ≠ some g := by
  intro g hg
  rcases h.2 with ⟨h1, _⟩ | ⟨g1, cap, cur, hv, hb, hh, _⟩
  · subst h1; simp [Value.ownBlock] at hg
  · subst hv
    simp only [Value.ownBlock, Option.some.injEq] at hg
    subst hg
    have hr : Row w g1 cur.toList e := by unfold Row; simpa using hh
    exact own_ne h' hr ht

theorem row_q {w : World} {g : Nat} {A : List Value} {t : TypeId} (h : Row w g A t) : ∀ o, w.cell? ⟨g, o, none⟩ = A.toArray[o]? := by
  intro o; rw [h.cell]; simp

theorem Row.same {w w' : World} {g : Nat} {A : List Value} {t : TypeId} (h : Row w g A t) (hs : w'.heap[g]? = w.heap[g]?) : Row w' g A t := by
  unfold Row; rw [hs]; exact h

theorem row_type {w : World} {g : Nat} {A B : List Value} {t u : TypeId} (h : Row w g A t) (k : Row w g B u) : t = u := by
  unfold Row at h k
  rw [h] at k
  simp only [Option.some.injEq, Obj.cells.injEq] at k
  exact k.2.1
end Go.Proofs.YtcmcfafhllpojaaGreat
