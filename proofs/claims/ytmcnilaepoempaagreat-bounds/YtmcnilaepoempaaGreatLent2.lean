/-
  The walks of wallslaw's lent.go: lentInts of nil, wholeInts, spoilInts, shows.
-/
import Derived.Test.YtmcnilaepoempaaGreatLent
namespace Go.Proofs.YtmcnilaepoempaaGreat
open Go.RowKit
attribute [local go_sem] Tryz.nilInts Tryz.nilGrid

set_option maxRecDepth 100000 in
set_option maxHeartbeats 400000 in
theorem lentInts_none (w : World) :
    Calls Tryz.prog 23 #[.slice none 0 0] w fun e w' => e = .returned (.slice none 0 0) ∧ w' = w := by
  go_enter Tryz.func23, Tryz.ntmps23
  go_wp2
  go_ret
  exact ⟨rfl, rfl⟩

/-- Block g is a row of these cells, none frozen. -/
def Row (w : World) (g : Nat) (A : List Value) (t : TypeId) : Prop := w.heap[g]? = some (.cells A.toArray t (0, 0))

theorem Row.cell {w : World} {g : Nat} {A : List Value} {t : TypeId} (h : Row w g A t) (i : Nat) : w.cell? ⟨g, i, none⟩ = A[i]? := by
  simp only [World.cell?]; rw [h]; simp
theorem Row.frozen {w : World} {g : Nat} {A : List Value} {t : TypeId} (h : Row w g A t) (i : Nat) : w.frozen? ⟨g, i, none⟩ = false := by
  simp only [World.frozen?]; rw [h]; simp
theorem Row.lt {w : World} {g : Nat} {A : List Value} {t : TypeId} (h : Row w g A t) : g < w.heap.size := (Array.getElem?_eq_some_iff.1 h).1
theorem Row.below {w w' : World} {g n : Nat} {A : List Value} {t : TypeId} (h : Row w g A t) (hb : Below n w w') (hg : g < n) : Row w' g A t := by
  unfold Row; rw [hb.block g hg]; exact h
theorem Row.alloc {w : World} {g : Nat} {A : List Value} {t : TypeId} (h : Row w g A t) (o : Obj) : Row (w.alloc o) g A t := by
  unfold Row; rw [Below.heap_alloc w o g h.lt]; exact h

theorem setRow_setRow (w : World) (g : Nat) (A B : Array Value) : (w.setRow g A).setRow g B = w.setRow g B := by
  unfold World.setRow
  congr 1
  apply Array.ext_getElem?
  intro i
  simp only [Array.getElem?_modify]
  by_cases h : g = i
  · subst h
    cases hq : w.heap[g]? with
    | none => simp
    | some o => cases o <;> simp
  · simp [h]

theorem setRow_setCell (w : World) (g : Nat) (A : Array Value) (i : Nat) (v : Value) : (w.setRow g A).setCell ⟨g, i, none⟩ v = w.setRow g (A.setIfInBounds i v) := by
  unfold World.setRow World.setCell
  congr 1
  apply Array.ext_getElem?
  intro j
  simp only [Array.getElem?_modify]
  by_cases h : g = j
  · subst h
    simp only [if_true, Option.map_map]
    congr 1
    funext o
    cases o <;> rfl
  · simp [h]

theorem Row.set {w : World} {g : Nat} {A B : List Value} {t : TypeId} (h : Row w g A t) : Row (w.setRow g B.toArray) g B t := setRow_heap w g _ _ t _ h
theorem Row.setSame {w : World} {g : Nat} {A : List Value} {t : TypeId} (h : Row w g A t) : w.setRow g A.toArray = w := by
  have e : (w.setRow g A.toArray).heap = w.heap := by
    apply Array.ext_getElem?
    intro i
    by_cases hi : i = g
    · subst hi
      rw [h.set]
      exact h.symm
    · exact setRow_other w g i _ hi
  cases w
  simpa [World.setRow] using e
theorem Row.setOther {w : World} {g k : Nat} {A : List Value} {B : Array Value} {t : TypeId} (h : Row w k A t) (hk : k ≠ g) : Row (w.setRow g B) k A t := by
  unfold Row; rw [setRow_other w g k B hk]; exact h

set_option maxRecDepth 100000 in
set_option maxHeartbeats 400000 in
theorem wholeInts_none (oa : Option Addr) (ol oc : Nat) (w : World) :
    Calls Tryz.prog 26 #[.slice oa ol oc, .slice none 0 0] w fun e w' => e = .returned (.bool true) ∧ w' = w := by
  go_enter Tryz.func26, Tryz.ntmps26
  go_wp2
  go_ret
  exact ⟨rfl, rfl⟩

theorem lent_get {xs : List Int} {len i : Nat} (hl : xs.length = len) (hi : i < len) : (lentL xs 8)[i]? = some (.int .i64 (xs.getD i 0)) := by
  rw [lentL_get xs 8 i (Nat.le_refl _), if_pos (by omega)]
  simp [List.getD, List.getElem?_eq_getElem (show i < xs.length by omega)]
theorem lent_get_past {xs : List Int} {len i : Nat} (hl : xs.length = len) (hi : len ≤ i) (h8 : i < len + 8) : (lentL xs 8)[i]? = some (.int .i64 77) := by
  rw [lentL_get xs 8 i (Nat.le_refl _), if_neg (by omega), if_pos (by omega)]

set_option maxRecDepth 100000 in
set_option maxHeartbeats 400000 in
theorem wholeInts_some (g : Nat) (sa : Addr) (len cap : Nat) (xs : List Int) (w : World) (h : Ints w (some sa) len cap xs) (hr : len * 8 ≤ 140737488351232) (hg : Row w g (lentL xs 8) 3) :
    Calls Tryz.prog 26 #[.slice (some ⟨g, 0, none⟩) len (len + 8), .slice (some sa) len cap] w fun e w' => e = .returned (.bool true) ∧ w' = w := by
  have HL : Hid (xs.length = len) := h.hlen
  have hle := h.hle
  go_enter Tryz.func26, Tryz.ntmps26
  go_wp2
  go_loop [7] (fun i => ∃ k : Nat, k ≤ len + 8 ∧ i = .int .i64 k) (fun i => len + 8 - (intOf i).toNat)
  case atStart => exact ⟨0, by omega, rfl⟩
  case round =>
    obtain ⟨k, hk, rfl⟩ := hrel
    by_cases hlt : k < len
    · obtain ⟨b, off, hsa, hc⟩ := h.hat k hlt
      simp only [Option.some.injEq] at hsa
      subst hsa
      have c1 : w.cell? ⟨g, k, none⟩ = some (.int .i64 (xs.getD k 0)) := by rw [hg.cell, lent_get HL.out hlt]
      generalize xs.getD k 0 = x at *
      have hx : (x != x) = false := by simp
      have hk8 : k < len + 8 := by omega
      go_wp2
      go_round
      case rel => exact ⟨k + 1, by omega, by go_num⟩
      case measure => simp [intOf]; omega
    · by_cases hk8 : k < len + 8
      · have c1 : w.cell? ⟨g, k, none⟩ = some (.int .i64 77) := by rw [hg.cell, lent_get_past HL.out (by omega) hk8]
        go_wp2
        go_round
        case rel => exact ⟨k + 1, by omega, by go_num⟩
        case measure => simp [intOf]; omega
      · go_wp2
        go_ret
        exact ⟨rfl, rfl⟩
end Go.Proofs.YtmcnilaepoempaaGreat
