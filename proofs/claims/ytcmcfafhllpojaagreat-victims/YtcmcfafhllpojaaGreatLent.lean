/-
  The walks of wallslaw's lent.go: lentInts, wholeInts, spoilInts, shows.
-/
import Derived.Test.YtcmcfafhllpojaaGreatProg
import Derived.Test.YtcmcfafhllpojaaGreatRowC
import Derived.Deep.Light
namespace Go.Proofs.YtcmcfafhllpojaaGreat
open Go.RowKit

theorem Tryz.nilInts (a : Option Addr) (l c : Nat) (w : World) : (binOp .eql 25 (.slice a l c) (.slice none 0 0)).run Tryz.prog w = .ok (.bool a.isNone) w :=
  Go.Lib.run_eql_slice_nil w 25 3 a l c 0 0 Tryz.underlying25
theorem Tryz.nilGrid (a : Option Addr) (l c : Nat) (w : World) : (binOp .eql 27 (.slice a l c) (.slice none 0 0)).run Tryz.prog w = .ok (.bool a.isNone) w :=
  Go.Lib.run_eql_slice_nil w 27 25 a l c 0 0 Tryz.underlying27
attribute [local go_sem] Tryz.nilInts Tryz.nilGrid

/-- What a lent list's block holds: the numbers, then n marks, then zeros. -/
def lentL (xs : List Int) (n : Nat) : List Value := xs.map (Value.int .i64) ++ (List.replicate n (.int .i64 77) ++ List.replicate (8 - n) (.int .i64 0))

theorem lentL_len (xs : List Int) (n : Nat) (h : n ≤ 8) : (lentL xs n).length = xs.length + 8 := by simp [lentL]; omega

theorem lentL_get (xs : List Int) (n i : Nat) (hn : n ≤ 8) : (lentL xs n)[i]? = if i < xs.length then (xs[i]?).map (Value.int .i64) else if i < xs.length + n then some (.int .i64 77) else if i < xs.length + 8 then some (.int .i64 0) else none := by
  unfold lentL
  by_cases h1 : i < xs.length
  · rw [if_pos h1, List.getElem?_append_left (by simpa using h1), List.getElem?_map]
  · rw [if_neg h1, List.getElem?_append_right (by simpa using h1), List.length_map]
    by_cases h2 : i < xs.length + n
    · rw [if_pos h2, List.getElem?_append_left (by simp; omega), List.getElem?_replicate, if_pos (by omega)]
    · rw [if_neg h2, List.getElem?_append_right (by simp; omega), List.getElem?_replicate, List.length_replicate]
      by_cases h3 : i < xs.length + 8
      · rw [if_pos h3, if_pos (by omega)]
      · rw [if_neg h3, if_neg (by omega)]

theorem lentL_set (xs : List Int) (n : Nat) (h : n < 8) : (lentL xs n).toArray.setIfInBounds (xs.length + n) (.int .i64 77) = (lentL xs (n + 1)).toArray := by
  apply Array.ext_getElem?
  intro i
  simp only [List.setIfInBounds_toArray, List.getElem?_toArray]
  rw [List.getElem?_set, lentL_get xs n i (by omega), lentL_get xs (n + 1) i (by omega), lentL_len xs n (by omega)]
  by_cases he : xs.length + n = i
  · subst he
    rw [if_pos rfl, if_pos (by omega), if_neg (by omega), if_pos (by omega)]
  · rw [if_neg he]
    by_cases h1 : i < xs.length
    · rw [if_pos h1, if_pos h1]
    · rw [if_neg h1, if_neg h1]
      by_cases h2 : i < xs.length + n
      · rw [if_pos h2, if_pos (by omega)]
      · rw [if_neg h2, if_neg (show ¬ i < xs.length + (n + 1) by omega)]

theorem lentL_zero (xs : List Int) (len : Nat) (h : xs.length = len) : xs.map (Value.int .i64) ++ (List.replicate (len + 8) (Value.int .i64 0)).drop (xs.map (Value.int .i64)).length = lentL xs 0 := by
  subst h
  simp [lentL]

theorem lent_copy (a : Addr) (len cap : Nat) (xs : List Int) (w : World) (h : Ints w (some a) len cap xs) :
    (Builtin.copy_ #[25, 25] 3 #[.slice (some ⟨w.heap.size, 0, none⟩) (len + 8) (len + 8), .slice (some a) len cap]).run Tryz.prog (w.alloc (.cells (madeCells #[.int .i64 0] (len + 8)) 3)) = .ok (.int .i64 len) (w.alloc (.cells (lentL xs 0).toArray 3)) := by
  have e : madeCells #[Value.int .i64 0] (len + 8) = (List.replicate (len + 8) (Value.int .i64 0)).toArray := made_int (len + 8)
  have hl := h.hlen
  rw [e, run_copy_new (P := Tryz.prog) w 25 25 3 3 Tryz.underlying25 Tryz.infoInt1 (some a) (len + 8) (len + 8) len cap (List.replicate (len + 8) (.int .i64 0)) 3 (xs.map (Value.int .i64)) (by simp; omega) (fun _ => ⟨a, rfl, h.src _⟩) (by simp; omega) (ints_oneCell _ _), lentL_zero xs len hl]
  simp [goInt, hl]

set_option maxRecDepth 100000 in
set_option maxHeartbeats 400000 in
theorem lentInts_some (a : Addr) (len cap : Nat) (xs : List Int) (w : World) (h : Ints w (some a) len cap xs) (hr : len * 8 ≤ 140737488351232) :
    Calls Tryz.prog 79 #[.slice (some a) len cap] w fun e w' => e = .returned (.slice (some ⟨w.heap.size, 0, none⟩) len (len + 8)) ∧ w' = w.alloc (.cells (lentL xs 8).toArray 3) := by
  have hle := h.hle
  have HL : Hid (xs.length = len) := h.hlen
  obtain ⟨i0, hi, hz0, hz1, hz2⟩ := info_parts Tryz.infoInt
  have hcp := lent_copy a len cap xs w h
  go_enter Tryz.func79, Tryz.ntmps79
  go_wp2_with (at_make; refine wpList_make_exact _ rfl _ _ 25 rfl 3 i0 (.int .i64 0) Tryz.underlying25 hi hz0 .i64 .i64 _ _ (len + 8) rfl rfl (by simp) (by simp) (by rw [hz2]; omega) (by unfold maxLen; omega) ?_; rw [hz1])
  go_loopw [5] (fun i wr => ∃ k : Nat, k ≤ 8 ∧ i = .int .i64 (len + k : Nat) ∧ wr = w.alloc (.cells (lentL xs k).toArray 3)) (fun i _ => len + 8 - (intOf i).toNat)
  case atStart => exact ⟨0, by omega, rfl, rfl⟩
  case round =>
    obtain ⟨k, hk, rfl, hwr⟩ := hrel
    have HW : Hid _ := hwr
    by_cases hlt : k < 8
    · have c1 : wr.cell? ⟨w.heap.size, len + k, none⟩ = some (.int .i64 0) := by
        have e := HL.out
        rw [hwr, alloc_cell, List.getElem?_toArray, lentL_get xs k (len + k) hk, if_neg (by omega), if_neg (by omega), if_pos (by omega)]
      have c2 : wr.frozen? ⟨w.heap.size, len + k, none⟩ = false := by rw [hwr, alloc_frozen]
      clear hwr
      go_wp2
      go_roundw
      case rel =>
        refine ⟨k + 1, by omega, by go_num, ?_⟩
        rw [HW.out]
        have e := HL.out
        rw [alloc_setCell, ← e, lentL_set xs k hlt]
      case measure => simp [intOf]; omega
    · have e : k = 8 := by omega
      subst e
      clear hwr
      go_wp2
      go_ret
      exact ⟨rfl, HW.out⟩
end Go.Proofs.YtcmcfafhllpojaaGreat
