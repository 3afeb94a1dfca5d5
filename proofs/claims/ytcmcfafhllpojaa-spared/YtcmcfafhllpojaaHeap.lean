/-
  Small laws on a block that a call has just made.
-/
import Derived.Test.YtcmcfafhllpojaaBase
import Derived.Laws.CopyOwn
import Derived.OwnWalk
namespace Go.Proofs.Ytcmcfafhllpojaa
open Go.RowKit

theorem push_modify {α : Type} (l : Array α) (x : α) (f : α → α) : (l.push x).modify l.size f = l.push (f x) := by
  apply Array.ext_getElem?
  intro i
  rw [Array.getElem?_modify, Array.getElem?_push, Array.getElem?_push]
  by_cases h : i = l.size
  · subst h; simp
  · simp [h, Ne.symm h]

theorem alloc_setRow (w : World) (A B : Array Value) (t : TypeId) (fr : Nat × Nat) : (w.alloc (.cells A t fr)).setRow w.heap.size B = w.alloc (.cells B t fr) := by
  unfold World.setRow World.alloc
  simp only [push_modify]

theorem alloc_setCell (w : World) (A : Array Value) (t : TypeId) (fr : Nat × Nat) (i : Nat) (v : Value) : (w.alloc (.cells A t fr)).setCell ⟨w.heap.size, i, none⟩ v = w.alloc (.cells (A.setIfInBounds i v) t fr) := by
  unfold World.setCell World.alloc
  simp only [push_modify, Option.isSome_none, Bool.false_eq_true, if_false]

theorem alloc_cell (w : World) (A : Array Value) (t : TypeId) (fr : Nat × Nat) (i : Nat) : (w.alloc (.cells A t fr)).cell? ⟨w.heap.size, i, none⟩ = A[i]? := by
  simp only [World.cell?]; rw [heap_alloc_new]; simp

theorem alloc_frozen (w : World) (A : Array Value) (t : TypeId) (i : Nat) : (w.alloc (.cells A t)).frozen? ⟨w.heap.size, i, none⟩ = false := by
  simp only [World.frozen?]; rw [heap_alloc_new]; simp

/-- 'make([]T, n)': the world written out. -/
theorem wpList_make_exact {P : Program} (w : World) {ops : Array Oper} {rest : List Oper} {o : Oper} {a : Act} {Q : Exit → Act → World → Prop}
    (hg : o.guard = none) (l c : Operand) (t : TypeId) (hop : o.op = Op.makeSlice t l c)
    (e : TypeId) (i : TypeInfo) (z : Value) (h1 : P.underlying t = some (.slice e)) (h2 : P.info? e = some i) (h3 : i.zero = some z)
    (kl kc : IntKind) (L C : Int) (n : Nat) (hl : a.eval l = .int kl L) (hc : a.eval c = .int kc C) (hL : L = (n : Int)) (hC : C = (n : Int)) (b2 : i.bytes * n ≤ 281474976710656) (b3 : n ≤ maxLen)
    (hK : wpList P ops Q rest (a.put o.dst (.slice (some ⟨w.heap.size, 0, none⟩) n n)) (w.alloc (.cells (madeCells z.cells (n * i.size)) e))) :
    wpList P ops Q (o :: rest) a w := by
  refine wpList_plain hg fun K hK' => ?_
  subst hL
  subst hC
  have h63' : (n : Int) ≤ 9223372036854775807 := by
    have h := b3
    simp [maxLen] at h
    omega
  have hb' : (i.bytes : Int) * (n : Int) ≤ 281474976710656 := by
    have h : ((i.bytes * n : Nat) : Int) ≤ 281474976710656 := by omega
    rwa [Int.natCast_mul] at h
  have hr := run_make (P := P) w t e i z h1 h2 h3 kl kc n n (by omega) (Int.le_refl _) hb' h63'
  simp only [Int.toNat_natCast] at hr
  unfold Oper.wp
  simp [execOp, hop, hl, hc, hr, Result.andThen]
  exact hK' _ _ hK

/-- 'copy(dst, src)' into the block made last: the world written out. -/
theorem run_copy_new {P : Program} (w0 : World) (dT sT oT : TypeId) (elem : TypeId) (hu : P.underlying dT = some (.slice elem)) (hsz : (P.info? elem).map (·.size) = some 1)
    (sp : Option Addr) (dLen dCap sLen sCap : Nat)
    (cur : List Value) (t : TypeId) (cs : List Value) (hn : cs.length = Nat.min sLen dLen)
    (hpos : 0 < cs.length → ∃ ad, sp = some ad ∧ ∀ j v, cs[j]? = some v → (w0.alloc (.cells cur.toArray t)).cell? (ad.add j) = some v)
    (hfit : cs.length ≤ cur.length) (h1 : ∀ v ∈ cs, v.oneCell' = true) :
    (Builtin.copy_ #[dT, sT] oT #[.slice (some ⟨w0.heap.size, 0, none⟩) dLen dCap, .slice sp sLen sCap]).run P (w0.alloc (.cells cur.toArray t)) = .ok (goInt cs.length) (w0.alloc (.cells (cs ++ cur.drop cs.length).toArray t)) := by
  by_cases h0 : cs.length = 0
  · obtain rfl : cs = [] := List.eq_nil_of_length_eq_zero h0
    rw [run_copy_none (P := P) _ dT sT oT elem _ sp dLen dCap sLen sCap hu hsz (by simpa using hn.symm)]
    simp
  · obtain ⟨ad, rfl, hsrc⟩ := hpos (by omega)
    rw [run_copy_row (P := P) _ dT sT oT elem w0.heap.size 0 dLen dCap ad sLen sCap cur.toArray t cs hu hsz (heap_alloc_new w0 _) hn hsrc (by simpa using hfit) h1, alloc_setRow]
    simp

end Go.Proofs.Ytcmcfafhllpojaa
