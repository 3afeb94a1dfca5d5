/-
  What lent lists are; lentInts, wholeInts and spoilInts of whatever list.
-/
import Derived.Test.YtcmcfafhllpojaaGreatLent3
namespace Go.Proofs.YtcmcfafhllpojaaGreat
open Go.RowKit

/-- The slice (va, vl, vc) is what lentInts gives of a list xs that is nil just where sa is; block g is its own. -/
def LentI (w : World) (sa : Option Addr) (xs : List Int) (va : Option Addr) (vl vc g : Nat) : Prop :=
  (sa = none ∧ va = none ∧ vl = 0 ∧ vc = 0) ∨ (sa ≠ none ∧ va = some ⟨g, 0, none⟩ ∧ vl = xs.length ∧ vc = xs.length + 8 ∧ Row w g (lentL xs 8) 3)

theorem LentI.same {w w' : World} {sa : Option Addr} {xs : List Int} {va : Option Addr} {vl vc g : Nat} (h : LentI w sa xs va vl vc g) (hg : w'.heap[g]? = w.heap[g]?) : LentI w' sa xs va vl vc g := by
  rcases h with h | ⟨h1, h2, h3, h4, h5⟩
  · exact Or.inl h
  · exact Or.inr ⟨h1, h2, h3, h4, by unfold Row; rw [hg]; exact h5⟩

theorem LentI.below {w w' : World} {sa : Option Addr} {xs : List Int} {va : Option Addr} {vl vc g n : Nat} (h : LentI w sa xs va vl vc g) (hb : Below n w w') (hn : w.heap.size ≤ n) : LentI w' sa xs va vl vc g := by
  rcases h with h | ⟨h1, h2, h3, h4, h5⟩
  · exact Or.inl h
  · exact Or.inr ⟨h1, h2, h3, h4, h5.below hb (Nat.lt_of_lt_of_le h5.lt hn)⟩

theorem Ints.nil {w : World} {len cap : Nat} {xs : List Int} (h : Ints w none len cap xs) : len = 0 ∧ cap = 0 ∧ xs = [] := by
  have h1 := h.hnil rfl
  have h2 := h.hle
  have h3 := h.hlen
  refine ⟨by omega, h1, List.eq_nil_of_length_eq_zero (by omega)⟩

theorem LentI.ints {w w0 : World} {sa : Option Addr} {len cap : Nat} {xs : List Int} {va : Option Addr} {vl vc g : Nat} (h : LentI w sa xs va vl vc g) (h0 : Ints w0 sa len cap xs) (hr : len * 8 ≤ 140737488351232) : Ints w va vl vc xs := by
  rcases h with ⟨rfl, rfl, rfl, rfl⟩ | ⟨h1, rfl, rfl, rfl, h5⟩
  · obtain ⟨e1, e2, e3⟩ := h0.nil
    subst e3
    exact ⟨rfl, by omega, by unfold maxLen; omega, fun _ => rfl, fun i hi => absurd hi (Nat.not_lt_zero _)⟩
  · have hl := h0.hlen
    refine ⟨rfl, by omega, by unfold maxLen; omega, (fun h => by cases h), fun i hi => ⟨g, 0, rfl, ?_⟩⟩
    rw [Nat.zero_add, h5.cell, lent_get rfl hi]

theorem lentInts_any (sa : Option Addr) (len cap : Nat) (xs : List Int) (w : World) (h : Ints w sa len cap xs) (hr : len * 8 ≤ 140737488351232) :
    Calls Tryz.prog 79 #[.slice sa len cap] w fun e w' => ∃ va vl vc, e = .returned (.slice va vl vc) ∧ LentI w' sa xs va vl vc w.heap.size ∧ Below w.heap.size w w' ∧ w'.heap.size ≤ w.heap.size + 1 := by
  cases sa with
  | none =>
    obtain ⟨rfl, rfl, rfl⟩ := h.nil
    refine (lentInts_none w).mono ?_
    rintro e w' ⟨rfl, rfl⟩
    exact ⟨none, 0, 0, rfl, Or.inl ⟨rfl, rfl, rfl, rfl⟩, Below.refl _ _, by omega⟩
  | some a =>
    refine (lentInts_some a len cap xs w h hr).mono ?_
    rintro e w' ⟨rfl, rfl⟩
    refine ⟨_, _, _, rfl, Or.inr ⟨by simp, rfl, h.hlen.symm, by rw [h.hlen], heap_alloc_new w _⟩, (Below.refl _ _).alloc (Nat.le_refl _) _, by simp⟩

theorem wholeInts_any (sa : Option Addr) (len cap : Nat) (xs : List Int) (va : Option Addr) (vl vc g : Nat) (w : World) (h : Ints w sa len cap xs) (hr : len * 8 ≤ 140737488351232) (hl : LentI w sa xs va vl vc g) :
    Calls Tryz.prog 82 #[.slice va vl vc, .slice sa len cap] w fun e w' => e = .returned (.bool true) ∧ w' = w := by
  rcases hl with ⟨rfl, rfl, rfl, rfl⟩ | ⟨h1, rfl, rfl, rfl, h5⟩
  · obtain ⟨rfl, rfl, rfl⟩ := h.nil
    exact wholeInts_none none 0 0 w
  · cases sa with
    | none => exact absurd rfl h1
    | some a =>
      have e := h.hlen
      subst e
      exact wholeInts_some g a _ cap xs w h hr h5

/-- A lent list's block has its size, whatever stands in it. -/
def Room (w : World) (va : Option Addr) (vl vc g : Nat) : Prop :=
  (va = none ∧ vl = 0 ∧ vc = 0) ∨ (va = some ⟨g, 0, none⟩ ∧ vc = vl + 8 ∧ ∃ A : List Value, A.length = vl + 8 ∧ Row w g A 3)

theorem LentI.room {w : World} {sa : Option Addr} {xs : List Int} {va : Option Addr} {vl vc g : Nat} (h : LentI w sa xs va vl vc g) : Room w va vl vc g := by
  rcases h with ⟨_, h2, h3, h4⟩ | ⟨_, h2, h3, h4, h5⟩
  · exact Or.inl ⟨h2, h3, h4⟩
  · exact Or.inr ⟨h2, by rw [h4, h3], _, by rw [h3]; exact lentL_len xs 8 (Nat.le_refl _), h5⟩

/-- Every row of cells keeps its kind and its size. -/
def Shaped (w w' : World) : Prop := ∀ k (A : List Value) t, Row w k A t → ∃ B : List Value, B.length = A.length ∧ Row w' k B t

theorem Shaped.refl (w : World) : Shaped w w := fun _ A _ h => ⟨A, rfl, h⟩
theorem Shaped.trans {a b c : World} (h : Shaped a b) (k : Shaped b c) : Shaped a c := fun i A t hA => by
  obtain ⟨B, e1, h1⟩ := h i A t hA
  obtain ⟨C, e2, h2⟩ := k i B t h1
  exact ⟨C, by rw [e2, e1], h2⟩
theorem Shaped.below {w w' : World} (hb : Below w.heap.size w w') : Shaped w w' := fun _ A _ h => ⟨A, rfl, h.below hb h.lt⟩
theorem Shaped.setRow {w : World} {g : Nat} {A B : List Value} {t : TypeId} (h : Row w g A t) (hl : B.length = A.length) : Shaped w (w.setRow g B.toArray) := fun k C t' hC => by
  by_cases e : k = g
  · subst e
    have e2 : A = C ∧ t = t' := by
      have h1 := h
      unfold Row at h1 hC
      rw [h1] at hC
      simp only [Option.some.injEq, Obj.cells.injEq, and_true] at hC
      exact ⟨by simpa using hC.1, hC.2⟩
    exact ⟨B, by rw [hl, e2.1], by rw [← e2.2]; exact h.set⟩
  · exact ⟨C, rfl, hC.setOther e⟩

theorem Room.shaped {w w' : World} {va : Option Addr} {vl vc g : Nat} (h : Room w va vl vc g) (hs : Shaped w w') : Room w' va vl vc g := by
  rcases h with h | ⟨h1, h2, A, hA, hr⟩
  · exact Or.inl h
  · obtain ⟨B, e, hB⟩ := hs _ _ _ hr
    exact Or.inr ⟨h1, h2, B, by rw [e, hA], hB⟩

/-- spoilInts: just block g turns, all of it is v then. -/
theorem spoilInts_any (va : Option Addr) (vl vc g lo : Nat) (v : Int) (w : World) (hr : vl * 8 ≤ 140737488351232) (h : Room w va vl vc g) (hlo : lo ≤ g) :
    Calls Tryz.prog 135 #[.slice va vl vc, .int .i64 v] w fun e w' => e = .returned (.tuple #[]) ∧ Below lo w w' ∧ Shaped w w' ∧ (∀ k, (va ≠ none → k ≠ g) → w'.heap[k]? = w.heap[k]?) ∧ Ints w' va vl vc (List.replicate vl v) := by
  rcases h with ⟨rfl, rfl, rfl⟩ | ⟨rfl, rfl, A, hA, hrow⟩
  · refine (spoilInts_none v w).mono ?_
    rintro e w' ⟨rfl, rfl⟩
    exact ⟨rfl, Below.refl _ _, Shaped.refl _, fun _ _ => rfl, rfl, by omega, by unfold maxLen; omega, fun _ => rfl, fun i hi => absurd hi (Nat.not_lt_zero _)⟩
  · refine (spoilInts_some g vl A v w hr hA hrow).mono ?_
    rintro e w' ⟨rfl, rfl⟩
    have hs : Row (w.setRow g (List.replicate (vl + 8) (Value.int .i64 v)).toArray) g (List.replicate (vl + 8) (Value.int .i64 v)) 3 := hrow.set
    refine ⟨rfl, below_setRow (Below.refl _ _) hlo _, Shaped.setRow hrow (by simp [hA]), fun k hk => setRow_other w g k _ (hk (by simp)), by simp, by omega, by unfold maxLen; omega, (fun h => by cases h), fun i hi => ⟨g, 0, rfl, ?_⟩⟩
    rw [Nat.zero_add, hs.cell]
    simp only [List.getElem?_replicate]
    rw [if_pos (by omega)]
    simp [List.getD, hi]

end Go.Proofs.YtcmcfafhllpojaaGreat
