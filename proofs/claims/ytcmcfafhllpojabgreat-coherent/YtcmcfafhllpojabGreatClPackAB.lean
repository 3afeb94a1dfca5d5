/-
  KaseQ, KaseU
-/
import Derived.Test.YtcmcfafhllpojabGreatClKaseT
namespace Go.Proofs.YtcmcfafhllpojabGreat
open Go.RowKit

theorem read_each {M : MDat} {d : Nat} {es : List Ev} (h : ReadOk M d es) : ∀ i, i < es.length → GoodEv M d (es.take i) (es.getD i evZ) := by
  induction h with
  | nil => intro i hi; simp at hi
  | snoc h1 h2 ih =>
    rename_i evs e
    intro i hi
    by_cases c : i < evs.length
    · have := ih i c
      rw [List.take_append_of_le_length (by omega), List.getD_eq_getElem?_getD, List.getElem?_append_left c, ← List.getD_eq_getElem?_getD]
      exact this
    · have e1 : i = evs.length := by simp at hi; omega
      subst e1
      rw [List.take_left, List.getD_eq_getElem?_getD, List.getElem?_append_right (Nat.le_refl _)]
      simpa using h2
theorem take_one {es : List Ev} {i : Nat} (h : i < es.length) : es.take (i + 1) = es.take i ++ [es.getD i evZ] := by
  rw [List.take_add_one, List.getElem?_eq_getElem h, List.getD_eq_getElem?_getD, List.getElem?_eq_getElem h]
  rfl
theorem fl_congr {n : Nat} {f g : Nat → Int} (h : ∀ a, a < n → f a = g a) : fl n f = fl n g := by
  apply List.ext_getElem?
  intro a
  by_cases c : a < n
  · rw [fl_at c, fl_at c, h a c]
  · rw [List.getElem?_eq_none (by simp [fl]; omega), List.getElem?_eq_none (by simp [fl]; omega)]
/-- A domain's first words. -/
theorem firstK (x : Cs) (d a pv sn : Nat) (hp : (pv : Int) = x.c.priv) (hs : (sn : Int) = x.c.shared) (ha : a < pv + sn) : (if a < pv then ownK x.c x.own d a else shK x.c x.com (a - pv)) = firstF0 (datK x) d (a : Int) := by
  unfold firstF0
  show _ = if (a : Int) < x.c.priv then ((List.range x.c.priv.toNat).map fun a => ownK x.c x.own d a).getD (a : Int).toNat 0 else ((List.range x.c.shared.toNat).map fun a => shK x.c x.com a).getD ((a : Int) - x.c.priv).toNat 0
  by_cases c : a < pv
  · rw [if_pos c, if_pos (by omega), Int.toNat_natCast, getD_map_range (by omega)]
  · rw [if_neg c, if_neg (by omega), show ((a : Int) - x.c.priv).toNat = a - pv by omega, getD_map_range (by omega)]
theorem BookS.same {w wx : World} {gB gw gs n nc : Nat} {W W' S S' : Nat → Int} (h : BookS w wx gB gw gs n nc W S) (h1 : ∀ a, a < n → W a = W' a) (h2 : ∀ a, a < nc → S a = S' a) : BookS w wx gB gw gs n nc W' S' :=
  ⟨h.bk, by rw [← fl_congr h1]; exact h.wd, by rw [← fl_congr h2]; exact h.sn, h.tch⟩
theorem BookS.here {w wx : World} {gB gw gs n nc : Nat} {W S : Nat → Int} (h : BookS w wx gB gw gs n nc W S) : BookS wx wx gB gw gs n nc W S := ⟨h.bk, h.wd, h.sn, Touch.refl _ _⟩
end Go.Proofs.YtcmcfafhllpojabGreat

namespace Go.Proofs.YtcmcfafhllpojabGreat
open Go.RowKit

theorem made_fl (n : Nat) : madeCells #[Value.int .i64 0] n = (fl n (fun _ => 0)).toArray := by
  have e : madeCells #[Value.int .i64 0] n = (List.replicate n (Value.int .i64 0)).toArray := made_int n
  rw [e]
  congr 1
  apply List.ext_getElem?
  intro a
  by_cases h : a < n
  · rw [fl_at h, List.getElem?_replicate, if_pos h]
  · rw [List.getElem?_eq_none (by simp; omega), List.getElem?_eq_none (by simp [fl]; omega)]

/-- What lies behind the making of a book. -/
def Made (w wx : World) (x : Cs) (l : Cl) (n nc : Nat) (W : Nat → Int) (u : Value) : Prop := ∃ gB gw gs, u = .pointer (some ⟨gB, 0, none⟩) ∧ Row wx w.heap.size (csL x l) 33 ∧ Below w.heap.size w wx ∧ BookS wx wx gB gw gs n nc W (fun _ => 0) ∧ gB ≠ gw ∧ gB ≠ gs ∧ gw ≠ gs ∧ w.heap.size < gB ∧ w.heap.size < gw ∧ w.heap.size < gs

theorem book_B {w w2 : World} {x : Cs} {l : Cl} {n nc gw gs : Nat} {W : Nat → Int} (r2 : Row w2 w.heap.size (csL x l) 33) (B2 : Below w.heap.size w w2) (hg : Row w2 gw (fl n W) 3) (hs : Row w2 gs (fl nc (fun _ => 0)) 3) (h1 : w.heap.size < gw) (h2 : w.heap.size < gs) (h3 : gw ≠ gs) :
    Made w (w2.alloc (.cells #[.slice (some ⟨gw, 0, none⟩) n n, .slice (some ⟨gs, 0, none⟩) nc nc] 129)) x l n nc W (.pointer (some ⟨w2.heap.size, 0, none⟩)) := by
  have l1 := hg.lt
  have l2 := hs.lt
  have l3 := r2.lt
  exact ⟨w2.heap.size, gw, gs, rfl, Row.alloc r2 _, B2.alloc B2.size _, ⟨heap_alloc_new w2 _, Row.alloc hg _, Row.alloc hs _, Touch.refl _ _⟩, by omega, by omega, h3, by omega, h1, h2⟩
theorem book_A {w w2 : World} {x : Cs} {l : Cl} {n nc gw : Nat} {W : Nat → Int} (r2 : Row w2 w.heap.size (csL x l) 33) (B2 : Below w.heap.size w w2) (hg : Row w2 gw (fl n W) 3) (h1 : w.heap.size < gw) :
    Made w ((w2.alloc (.cells (madeCells #[.int .i64 0] nc) 3)).alloc (.cells #[.slice (some ⟨gw, 0, none⟩) n n, .slice (some ⟨w2.heap.size, 0, none⟩) nc nc] 129)) x l n nc W (.pointer (some ⟨w2.heap.size + 1, 0, none⟩)) := by
  have l1 := hg.lt
  have l3 := r2.lt
  have hs : Row (w2.alloc (.cells (madeCells #[.int .i64 0] nc) 3)) w2.heap.size (fl nc (fun _ => 0)) 3 := by
    unfold Row
    rw [heap_alloc_new, made_fl]
  have := book_B (gw := gw) (gs := w2.heap.size) (Row.alloc r2 _) (B2.alloc B2.size _) (Row.alloc hg (.cells (madeCells #[.int .i64 0] nc) 3)) hs h1 (by omega) (by omega)
  rw [World.size_alloc] at this
  exact this
/-- The row of what was seen, made ahead of the words. -/
theorem seen_B {w2 W0 : World} {nc : Nat} (hb : Below (W0.alloc (.cells (madeCells #[.int .i64 0] nc) 3)).heap.size (W0.alloc (.cells (madeCells #[.int .i64 0] nc) 3)) w2) : Row w2 W0.heap.size (fl nc (fun _ => 0)) 3 := by
  refine Row.below ?_ hb (by simp)
  unfold Row
  rw [heap_alloc_new, made_fl]
end Go.Proofs.YtcmcfafhllpojabGreat
