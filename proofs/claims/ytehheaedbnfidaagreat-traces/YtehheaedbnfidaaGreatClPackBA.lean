/-
  Lent, Lent2, Lent3, Lent4, Lent5
-/
import Derived.Test.YtehheaedbnfidaaGreatProg
import Derived.Test.YtehheaedbnfidaaGreatClPackA
import Derived.Deep.Light
namespace Go.Proofs.YtehheaedbnfidaaGreat
open Go.RowKit

theorem Tryz.nilInts (a : Option Addr) (l c : Nat) (w : World) : (binOp .eql 25 (.slice a l c) (.slice none 0 0)).run Tryz.prog w = .ok (.bool a.isNone) w :=
  Go.Lib.run_eql_slice_nil w 25 3 a l c 0 0 Tryz.underlying25
theorem Tryz.nilGrid (a : Option Addr) (l c : Nat) (w : World) : (binOp .eql 41 (.slice a l c) (.slice none 0 0)).run Tryz.prog w = .ok (.bool a.isNone) w :=
  Go.Lib.run_eql_slice_nil w 41 25 a l c 0 0 Tryz.underlying41
attribute [local go_sem] Tryz.nilInts Tryz.nilGrid

/-- What a lent list's block holds: the numbers, then n marks, then zeros. -/
def lentL (xs : List Int) (n : Nat) : List Value := xs.map (Value.int .i64) ++ (List.replicate n (.int .i64 77) ++ List.replicate (8 - n) (.int .i64 0))

theorem lentL_len (xs : List Int) (n : Nat) (h : n ≤ 8) : (lentL xs n).length = xs.length + 8 := by simp [lentL]; omega

theorem lentL_get (xs : List Int) (n i : Nat) (hn : n ≤ 8) : (lentL xs n)[i]? = if i < xs.length then (xs[i]?).map (Value.int .i64) else if i < xs.length + n then some (.int .i64 77) else if i < xs.length + 8 then some (.int .i64 0) else none := by
  unfold lentL
  by_cases h1 : i < xs.length
  · rw [if_pos h1, List.getElem?_append_left (by simpa using h1), List.getElem?_map]
  · rw [if_neg h1, List.getElem?_append_right (by simpa using h1), List.length_map]
    by_cases h2 : i < xs.length + n
    · rw [if_pos h2, List.getElem?_append_left (by simp; omega), List.getElem?_replicate, if_pos (by omega)]
    · rw [if_neg h2, List.getElem?_append_right (by simp; omega), List.getElem?_replicate, List.length_replicate]
      by_cases h3 : i < xs.length + 8
      · rw [if_pos h3, if_pos (by omega)]
      · rw [if_neg h3, if_neg (by omega)]

theorem lentL_set (xs : List Int) (n : Nat) (h : n < 8) : (lentL xs n).toArray.setIfInBounds (xs.length + n) (.int .i64 77) = (lentL xs (n + 1)).toArray := by
  apply Array.ext_getElem?
  intro i
  simp only [List.setIfInBounds_toArray, List.getElem?_toArray]
  rw [List.getElem?_set, lentL_get xs n i (by omega), lentL_get xs (n + 1) i (by omega), lentL_len xs n (by omega)]
  by_cases he : xs.length + n = i
  · subst he
    rw [if_pos rfl, if_pos (by omega), if_neg (by omega), if_pos (by omega)]
  · rw [if_neg he]
    by_cases h1 : i < xs.length
    · rw [if_pos h1, if_pos h1]
    · rw [if_neg h1, if_neg h1]
      by_cases h2 : i < xs.length + n
      · rw [if_pos h2, if_pos (by omega)]
      · rw [if_neg h2, if_neg (show ¬ i < xs.length + (n + 1) by omega)]

theorem lentL_zero (xs : List Int) (len : Nat) (h : xs.length = len) : xs.map (Value.int .i64) ++ (List.replicate (len + 8) (Value.int .i64 0)).drop (xs.map (Value.int .i64)).length = lentL xs 0 := by
  subst h
  simp [lentL]

theorem lent_copy (a : Addr) (len cap : Nat) (xs : List Int) (w : World) (h : Ints w (some a) len cap xs) :
    (Builtin.copy_ #[25, 25] 3 #[.slice (some ⟨w.heap.size, 0, none⟩) (len + 8) (len + 8), .slice (some a) len cap]).run Tryz.prog (w.alloc (.cells (madeCells #[.int .i64 0] (len + 8)) 3)) = .ok (.int .i64 len) (w.alloc (.cells (lentL xs 0).toArray 3)) := by
  have e : madeCells #[Value.int .i64 0] (len + 8) = (List.replicate (len + 8) (Value.int .i64 0)).toArray := made_int (len + 8)
  have hl := h.hlen
  rw [e, run_copy_new (P := Tryz.prog) w 25 25 3 3 Tryz.underlying25 Tryz.infoInt1 (some a) (len + 8) (len + 8) len cap (List.replicate (len + 8) (.int .i64 0)) 3 (xs.map (Value.int .i64)) (by simp; omega) (fun _ => ⟨a, rfl, h.src _⟩) (by simp; omega) (ints_oneCell _ _), lentL_zero xs len hl]
  simp [goInt, hl]

set_option maxRecDepth 100000 in
set_option maxHeartbeats 400000 in
theorem lentInts_some (a : Addr) (len cap : Nat) (xs : List Int) (w : World) (h : Ints w (some a) len cap xs) (hr : len * 8 ≤ 140737488351232) :
    Calls Tryz.prog 25 #[.slice (some a) len cap] w fun e w' => e = .returned (.slice (some ⟨w.heap.size, 0, none⟩) len (len + 8)) ∧ w' = w.alloc (.cells (lentL xs 8).toArray 3) := by
  have hle := h.hle
  have HL : Hid (xs.length = len) := h.hlen
  obtain ⟨i0, hi, hz0, hz1, hz2⟩ := info_parts Tryz.infoInt
  have hcp := lent_copy a len cap xs w h
  go_enter Tryz.func25, Tryz.ntmps25
  go_wp2_with (at_make; refine wpList_make_exact _ rfl _ _ 25 rfl 3 i0 (.int .i64 0) Tryz.underlying25 hi hz0 .i64 .i64 _ _ (len + 8) rfl rfl (by simp) (by simp) (by rw [hz2]; omega) (by unfold maxLen; omega) ?_; rw [hz1])
  go_loopw [5] (fun i wr => ∃ k : Nat, k ≤ 8 ∧ i = .int .i64 (len + k : Nat) ∧ wr = w.alloc (.cells (lentL xs k).toArray 3)) (fun i _ => len + 8 - (intOf i).toNat)
  case atStart => exact ⟨0, by omega, rfl, rfl⟩
  case round =>
    obtain ⟨k, hk, rfl, hwr⟩ := hrel
    have HW : Hid _ := hwr
    by_cases hlt : k < 8
    · have c1 : wr.cell? ⟨w.heap.size, len + k, none⟩ = some (.int .i64 0) := by
        have e := HL.out
        rw [hwr, alloc_cell, List.getElem?_toArray, lentL_get xs k (len + k) hk, if_neg (by omega), if_neg (by omega), if_pos (by omega)]
      have c2 : wr.frozen? ⟨w.heap.size, len + k, none⟩ = false := by rw [hwr, alloc_frozen]
      clear hwr
      go_wp2
      go_roundw
      case rel =>
        refine ⟨k + 1, by omega, by go_num, ?_⟩
        rw [HW.out]
        have e := HL.out
        rw [alloc_setCell, ← e, lentL_set xs k hlt]
      case measure => simp [intOf]; omega
    · have e : k = 8 := by omega
      subst e
      clear hwr
      go_wp2
      go_ret
      exact ⟨rfl, HW.out⟩
end Go.Proofs.YtehheaedbnfidaaGreat

namespace Go.Proofs.YtehheaedbnfidaaGreat
open Go.RowKit
attribute [local go_sem] Tryz.nilInts Tryz.nilGrid

set_option maxRecDepth 100000 in
set_option maxHeartbeats 400000 in
theorem lentInts_none (w : World) :
    Calls Tryz.prog 25 #[.slice none 0 0] w fun e w' => e = .returned (.slice none 0 0) ∧ w' = w := by
  go_enter Tryz.func25, Tryz.ntmps25
  go_wp2
  go_ret
  exact ⟨rfl, rfl⟩

set_option maxRecDepth 100000 in
set_option maxHeartbeats 400000 in
theorem wholeInts_none (oa : Option Addr) (ol oc : Nat) (w : World) :
    Calls Tryz.prog 28 #[.slice oa ol oc, .slice none 0 0] w fun e w' => e = .returned (.bool true) ∧ w' = w := by
  go_enter Tryz.func28, Tryz.ntmps28
  go_wp2
  go_ret
  exact ⟨rfl, rfl⟩

theorem lent_get {xs : List Int} {len i : Nat} (hl : xs.length = len) (hi : i < len) : (lentL xs 8)[i]? = some (.int .i64 (xs.getD i 0)) := by
  rw [lentL_get xs 8 i (Nat.le_refl _), if_pos (by omega)]
  simp [List.getD, List.getElem?_eq_getElem (show i < xs.length by omega)]
theorem lent_get_past {xs : List Int} {len i : Nat} (hl : xs.length = len) (hi : len ≤ i) (h8 : i < len + 8) : (lentL xs 8)[i]? = some (.int .i64 77) := by
  rw [lentL_get xs 8 i (Nat.le_refl _), if_neg (by omega), if_pos (by omega)]

set_option maxRecDepth 100000 in
set_option maxHeartbeats 400000 in
theorem wholeInts_some (g : Nat) (sa : Addr) (len cap : Nat) (xs : List Int) (w : World) (h : Ints w (some sa) len cap xs) (hr : len * 8 ≤ 140737488351232) (hg : Row w g (lentL xs 8) 3) :
    Calls Tryz.prog 28 #[.slice (some ⟨g, 0, none⟩) len (len + 8), .slice (some sa) len cap] w fun e w' => e = .returned (.bool true) ∧ w' = w := by
  have HL : Hid (xs.length = len) := h.hlen
  have hle := h.hle
  go_enter Tryz.func28, Tryz.ntmps28
  go_wp2
  go_loop [7] (fun i => ∃ k : Nat, k ≤ len + 8 ∧ i = .int .i64 k) (fun i => len + 8 - (intOf i).toNat)
  case atStart => exact ⟨0, by omega, rfl⟩
  case round =>
    obtain ⟨k, hk, rfl⟩ := hrel
    by_cases hlt : k < len
    · obtain ⟨b, off, hsa, hc⟩ := h.hat k hlt
      simp only [Option.some.injEq] at hsa
      subst hsa
      have c1 : w.cell? ⟨g, k, none⟩ = some (.int .i64 (xs.getD k 0)) := by rw [hg.cell, lent_get HL.out hlt]
      generalize xs.getD k 0 = x at *
      have hx : (x != x) = false := by simp
      have hk8 : k < len + 8 := by omega
      go_wp2
      go_round
      case rel => exact ⟨k + 1, by omega, by go_num⟩
      case measure => simp [intOf]; omega
    · by_cases hk8 : k < len + 8
      · have c1 : w.cell? ⟨g, k, none⟩ = some (.int .i64 77) := by rw [hg.cell, lent_get_past HL.out (by omega) hk8]
        go_wp2
        go_round
        case rel => exact ⟨k + 1, by omega, by go_num⟩
        case measure => simp [intOf]; omega
      · go_wp2
        go_ret
        exact ⟨rfl, rfl⟩
end Go.Proofs.YtehheaedbnfidaaGreat

namespace Go.Proofs.YtehheaedbnfidaaGreat
open Go.RowKit
attribute [local go_sem] Tryz.nilInts Tryz.nilGrid

set_option maxRecDepth 100000 in
set_option maxHeartbeats 400000 in
theorem spoilInts_none (v : Int) (w : World) :
    Calls Tryz.prog 74 #[.slice none 0 0, .int .i64 v] w fun e w' => e = .returned (.tuple #[]) ∧ w' = w := by
  go_enter Tryz.func74, Tryz.ntmps74
  go_wp2
  refine bodyPost_ret (results_none rfl _ _ _) rfl ?_
  exact ⟨rfl, rfl⟩

/-- A row of which the first k cells are spoilt. -/
def spoilt (A : List Value) (v : Int) (k : Nat) : List Value := List.replicate k (.int .i64 v) ++ A.drop k

theorem spoilt_len (A : List Value) (v : Int) (k : Nat) (h : k ≤ A.length) : (spoilt A v k).length = A.length := by simp [spoilt]; omega
theorem spoilt_zero (A : List Value) (v : Int) : spoilt A v 0 = A := by simp [spoilt]
theorem spoilt_all (A : List Value) (v : Int) (k : Nat) (h : A.length = k) : spoilt A v k = List.replicate k (.int .i64 v) := by
  simp [spoilt, List.drop_of_length_le (by omega : A.length ≤ k)]
theorem spoilt_get (A : List Value) (v : Int) (k : Nat) : (spoilt A v k)[k]? = A[k]? := by
  unfold spoilt
  rw [List.getElem?_append_right (by simp)]
  simp
theorem spoilt_set (A : List Value) (v : Int) (k : Nat) (h : k < A.length) : (spoilt A v k).toArray.setIfInBounds k (.int .i64 v) = (spoilt A v (k + 1)).toArray := by
  apply Array.ext_getElem?
  intro i
  simp only [List.setIfInBounds_toArray, List.getElem?_toArray]
  rw [List.getElem?_set, spoilt_len A v k (by omega)]
  unfold spoilt
  by_cases he : k = i
  · subst he
    rw [if_pos rfl, if_pos h, List.getElem?_append_left (by simp), List.getElem?_replicate, if_pos (by omega)]
  · rw [if_neg he]
    by_cases h1 : i < k
    · rw [List.getElem?_append_left (by simpa using h1), List.getElem?_append_left (by simp; omega), List.getElem?_replicate, List.getElem?_replicate, if_pos h1, if_pos (by omega)]
    · rw [List.getElem?_append_right (by simp; omega), List.getElem?_append_right (by simp; omega), List.getElem?_drop, List.getElem?_drop]
      simp only [List.length_replicate]
      congr 1
      omega

set_option maxRecDepth 100000 in
set_option maxHeartbeats 400000 in
theorem spoilInts_some (g len : Nat) (A : List Value) (v : Int) (w : World) (hr : len * 8 ≤ 140737488351232) (hA : A.length = len + 8) (hg : Row w g A 3) :
    Calls Tryz.prog 74 #[.slice (some ⟨g, 0, none⟩) len (len + 8), .int .i64 v] w fun e w' => e = .returned (.tuple #[]) ∧ w' = w.setRow g (List.replicate (len + 8) (.int .i64 v)).toArray := by
  have HA : Hid (A.length = len + 8) := hA
  clear hA
  go_enter Tryz.func74, Tryz.ntmps74
  go_wp2
  go_loopw [5] (fun i wr => ∃ k : Nat, k ≤ len + 8 ∧ i = .int .i64 k ∧ wr = w.setRow g (spoilt A v k).toArray) (fun i _ => len + 8 - (intOf i).toNat)
  case atStart => exact ⟨0, by omega, rfl, by rw [spoilt_zero, hg.setSame]⟩
  case round =>
    obtain ⟨k, hk, rfl, hwr⟩ := hrel
    have HW : Hid _ := hwr
    by_cases hlt : k < len + 8
    · have hrow : Row wr g (spoilt A v k) 3 := by rw [hwr]; exact hg.set
      have hget : ∃ x, A[k]? = some x := ⟨A[k]'(by rw [HA.out]; exact hlt), List.getElem?_eq_getElem _⟩
      obtain ⟨x, hx⟩ := hget
      have c1 : wr.cell? ⟨g, k, none⟩ = some x := by rw [hrow.cell, spoilt_get A v k, hx]
      have c2 : wr.frozen? ⟨g, k, none⟩ = false := hrow.frozen k
      clear hwr hrow hx
      go_wp2
      go_roundw
      case rel =>
        refine ⟨k + 1, by omega, by go_num, ?_⟩
        rw [HW.out, setRow_setCell, spoilt_set A v k (by rw [HA.out]; exact hlt)]
      case measure => simp [intOf]; omega
    · have e : k = len + 8 := by omega
      subst e
      clear hwr
      go_wp2
      go_end0
      exact ⟨rfl, by rw [HW.out, spoilt_all A v (len + 8) HA.out]⟩

set_option maxRecDepth 100000 in
set_option maxHeartbeats 400000 in
theorem shows_any (sa : Option Addr) (len cap : Nat) (v : Int) (w : World) (h : Ints w sa len cap (List.replicate len v)) :
    Calls Tryz.prog 111 #[.slice sa len cap, .int .i64 len, .int .i64 v] w fun e w' => e = .returned (.bool true) ∧ w' = w := by
  have hle := h.hle
  have hm := h.hmax
  unfold maxLen at hm
  have hx : ((len : Int) != (len : Int)) = false := by simp
  have hv : (v != v) = false := by simp
  go_enter Tryz.func111, Tryz.ntmps111
  go_wp2
  go_loop [7] (fun i => ∃ k : Nat, k ≤ len ∧ i = .int .i64 k) (fun i => len - (intOf i).toNat)
  case atStart => exact ⟨0, by omega, rfl⟩
  case round =>
    obtain ⟨k, hk, rfl⟩ := hrel
    by_cases hlt : k < len
    · obtain ⟨b, off, rfl, hc0⟩ := h.hat k hlt
      have hc : w.cell? ⟨b, off + k, none⟩ = some (.int .i64 v) := by rw [hc0]; simp [List.getD, hlt]
      clear hc0
      go_wp2
      go_round
      case rel => exact ⟨k + 1, by omega, by go_num⟩
      case measure => simp [intOf]; omega
    · go_wp2
      go_ret
      exact ⟨rfl, rfl⟩
end Go.Proofs.YtehheaedbnfidaaGreat

namespace Go.Proofs.YtehheaedbnfidaaGreat
open Go.RowKit

/-- The slice (va, vl, vc) is what lentInts gives of a list xs that is nil just where sa is; block g is its own. -/
def LentI (w : World) (sa : Option Addr) (xs : List Int) (va : Option Addr) (vl vc g : Nat) : Prop :=
  (sa = none ∧ va = none ∧ vl = 0 ∧ vc = 0) ∨ (sa ≠ none ∧ va = some ⟨g, 0, none⟩ ∧ vl = xs.length ∧ vc = xs.length + 8 ∧ Row w g (lentL xs 8) 3)

theorem LentI.same {w w' : World} {sa : Option Addr} {xs : List Int} {va : Option Addr} {vl vc g : Nat} (h : LentI w sa xs va vl vc g) (hg : w'.heap[g]? = w.heap[g]?) : LentI w' sa xs va vl vc g := by
  rcases h with h | ⟨h1, h2, h3, h4, h5⟩
  · exact Or.inl h
  · exact Or.inr ⟨h1, h2, h3, h4, by unfold Row; rw [hg]; exact h5⟩

theorem LentI.below {w w' : World} {sa : Option Addr} {xs : List Int} {va : Option Addr} {vl vc g n : Nat} (h : LentI w sa xs va vl vc g) (hb : Below n w w') (hn : w.heap.size ≤ n) : LentI w' sa xs va vl vc g := by
  rcases h with h | ⟨h1, h2, h3, h4, h5⟩
  · exact Or.inl h
  · exact Or.inr ⟨h1, h2, h3, h4, h5.below hb (Nat.lt_of_lt_of_le h5.lt hn)⟩

theorem Ints.nil {w : World} {len cap : Nat} {xs : List Int} (h : Ints w none len cap xs) : len = 0 ∧ cap = 0 ∧ xs = [] := by
  have h1 := h.hnil rfl
  have h2 := h.hle
  have h3 := h.hlen
  refine ⟨by omega, h1, List.eq_nil_of_length_eq_zero (by omega)⟩

theorem LentI.ints {w w0 : World} {sa : Option Addr} {len cap : Nat} {xs : List Int} {va : Option Addr} {vl vc g : Nat} (h : LentI w sa xs va vl vc g) (h0 : Ints w0 sa len cap xs) (hr : len * 8 ≤ 140737488351232) : Ints w va vl vc xs := by
  rcases h with ⟨rfl, rfl, rfl, rfl⟩ | ⟨h1, rfl, rfl, rfl, h5⟩
  · obtain ⟨e1, e2, e3⟩ := h0.nil
    subst e3
    exact ⟨rfl, by omega, by unfold maxLen; omega, fun _ => rfl, fun i hi => absurd hi (Nat.not_lt_zero _)⟩
  · have hl := h0.hlen
    refine ⟨rfl, by omega, by unfold maxLen; omega, (fun h => by cases h), fun i hi => ⟨g, 0, rfl, ?_⟩⟩
    rw [Nat.zero_add, h5.cell, lent_get rfl hi]

theorem lentInts_any (sa : Option Addr) (len cap : Nat) (xs : List Int) (w : World) (h : Ints w sa len cap xs) (hr : len * 8 ≤ 140737488351232) :
    Calls Tryz.prog 25 #[.slice sa len cap] w fun e w' => ∃ va vl vc, e = .returned (.slice va vl vc) ∧ LentI w' sa xs va vl vc w.heap.size ∧ Below w.heap.size w w' ∧ w'.heap.size ≤ w.heap.size + 1 := by
  cases sa with
  | none =>
    obtain ⟨rfl, rfl, rfl⟩ := h.nil
    refine (lentInts_none w).mono ?_
    rintro e w' ⟨rfl, rfl⟩
    exact ⟨none, 0, 0, rfl, Or.inl ⟨rfl, rfl, rfl, rfl⟩, Below.refl _ _, by omega⟩
  | some a =>
    refine (lentInts_some a len cap xs w h hr).mono ?_
    rintro e w' ⟨rfl, rfl⟩
    refine ⟨_, _, _, rfl, Or.inr ⟨by simp, rfl, h.hlen.symm, by rw [h.hlen], heap_alloc_new w _⟩, (Below.refl _ _).alloc (Nat.le_refl _) _, by simp⟩

theorem wholeInts_any (sa : Option Addr) (len cap : Nat) (xs : List Int) (va : Option Addr) (vl vc g : Nat) (w : World) (h : Ints w sa len cap xs) (hr : len * 8 ≤ 140737488351232) (hl : LentI w sa xs va vl vc g) :
    Calls Tryz.prog 28 #[.slice va vl vc, .slice sa len cap] w fun e w' => e = .returned (.bool true) ∧ w' = w := by
  rcases hl with ⟨rfl, rfl, rfl, rfl⟩ | ⟨h1, rfl, rfl, rfl, h5⟩
  · obtain ⟨rfl, rfl, rfl⟩ := h.nil
    exact wholeInts_none none 0 0 w
  · cases sa with
    | none => exact absurd rfl h1
    | some a =>
      have e := h.hlen
      subst e
      exact wholeInts_some g a _ cap xs w h hr h5

/-- A lent list's block has its size, whatever stands in it. -/
def Room (w : World) (va : Option Addr) (vl vc g : Nat) : Prop :=
  (va = none ∧ vl = 0 ∧ vc = 0) ∨ (va = some ⟨g, 0, none⟩ ∧ vc = vl + 8 ∧ ∃ A : List Value, A.length = vl + 8 ∧ Row w g A 3)

theorem LentI.room {w : World} {sa : Option Addr} {xs : List Int} {va : Option Addr} {vl vc g : Nat} (h : LentI w sa xs va vl vc g) : Room w va vl vc g := by
  rcases h with ⟨_, h2, h3, h4⟩ | ⟨_, h2, h3, h4, h5⟩
  · exact Or.inl ⟨h2, h3, h4⟩
  · exact Or.inr ⟨h2, by rw [h4, h3], _, by rw [h3]; exact lentL_len xs 8 (Nat.le_refl _), h5⟩

/-- Every row of cells keeps its kind and its size. -/
def Shaped (w w' : World) : Prop := ∀ k (A : List Value) t, Row w k A t → ∃ B : List Value, B.length = A.length ∧ Row w' k B t

theorem Shaped.refl (w : World) : Shaped w w := fun _ A _ h => ⟨A, rfl, h⟩
theorem Shaped.trans {a b c : World} (h : Shaped a b) (k : Shaped b c) : Shaped a c := fun i A t hA => by
  obtain ⟨B, e1, h1⟩ := h i A t hA
  obtain ⟨C, e2, h2⟩ := k i B t h1
  exact ⟨C, by rw [e2, e1], h2⟩
theorem Shaped.below {w w' : World} (hb : Below w.heap.size w w') : Shaped w w' := fun _ A _ h => ⟨A, rfl, h.below hb h.lt⟩
theorem Shaped.setRow {w : World} {g : Nat} {A B : List Value} {t : TypeId} (h : Row w g A t) (hl : B.length = A.length) : Shaped w (w.setRow g B.toArray) := fun k C t' hC => by
  by_cases e : k = g
  · subst e
    have e2 : A = C ∧ t = t' := by
      have h1 := h
      unfold Row at h1 hC
      rw [h1] at hC
      simp only [Option.some.injEq, Obj.cells.injEq, and_true] at hC
      exact ⟨by simpa using hC.1, hC.2⟩
    exact ⟨B, by rw [hl, e2.1], by rw [← e2.2]; exact h.set⟩
  · exact ⟨C, rfl, hC.setOther e⟩

theorem Room.shaped {w w' : World} {va : Option Addr} {vl vc g : Nat} (h : Room w va vl vc g) (hs : Shaped w w') : Room w' va vl vc g := by
  rcases h with h | ⟨h1, h2, A, hA, hr⟩
  · exact Or.inl h
  · obtain ⟨B, e, hB⟩ := hs _ _ _ hr
    exact Or.inr ⟨h1, h2, B, by rw [e, hA], hB⟩

/-- spoilInts: just block g turns, all of it is v then. -/
theorem spoilInts_any (va : Option Addr) (vl vc g lo : Nat) (v : Int) (w : World) (hr : vl * 8 ≤ 140737488351232) (h : Room w va vl vc g) (hlo : lo ≤ g) :
    Calls Tryz.prog 74 #[.slice va vl vc, .int .i64 v] w fun e w' => e = .returned (.tuple #[]) ∧ Below lo w w' ∧ Shaped w w' ∧ (∀ k, (va ≠ none → k ≠ g) → w'.heap[k]? = w.heap[k]?) ∧ Ints w' va vl vc (List.replicate vl v) := by
  rcases h with ⟨rfl, rfl, rfl⟩ | ⟨rfl, rfl, A, hA, hrow⟩
  · refine (spoilInts_none v w).mono ?_
    rintro e w' ⟨rfl, rfl⟩
    exact ⟨rfl, Below.refl _ _, Shaped.refl _, fun _ _ => rfl, rfl, by omega, by unfold maxLen; omega, fun _ => rfl, fun i hi => absurd hi (Nat.not_lt_zero _)⟩
  · refine (spoilInts_some g vl A v w hr hA hrow).mono ?_
    rintro e w' ⟨rfl, rfl⟩
    have hs : Row (w.setRow g (List.replicate (vl + 8) (Value.int .i64 v)).toArray) g (List.replicate (vl + 8) (Value.int .i64 v)) 3 := hrow.set
    refine ⟨rfl, below_setRow (Below.refl _ _) hlo _, Shaped.setRow hrow (by simp [hA]), fun k hk => setRow_other w g k _ (hk (by simp)), by simp, by omega, by unfold maxLen; omega, (fun h => by cases h), fun i hi => ⟨g, 0, rfl, ?_⟩⟩
    rw [Nat.zero_add, hs.cell]
    simp only [List.getElem?_replicate]
    rw [if_pos (by omega)]
    simp [List.getD, hi]

end Go.Proofs.YtehheaedbnfidaaGreat

namespace Go.Proofs.YtehheaedbnfidaaGreat
open Go.RowKit
attribute [local go_sem] Tryz.nilInts Tryz.nilGrid

/-- The state of the walk through lent: the boxed configuration, the result's variable. -/
structure LSt (w wr : World) (c : Cf) (s1 : Sl) : Prop where
  below : Below w.heap.size w wr
  box : Row wr w.heap.size (cfgL c s1) 43
  res : ∃ s2 c2, Row wr (w.heap.size + 1) (cfgL c2 s2) 43

def cf0 : Cf := ⟨0, 0, 0, 0, 0, 0, 0, [], 0, [], [], 0, 0⟩
def sl0 : Sl := ⟨none, 0, 0, none, 0, 0, none, 0, 0⟩

theorem LSt.start (w : World) (c : Cf) (s : Sl) : LSt w ((w.alloc (.cells (cfgA c s) 43)).alloc (.cells (cfgA cf0 sl0) 43)) c s := by
  refine ⟨((Below.refl _ _).alloc (Nat.le_refl _) _).alloc (by simp) _, ?_, ⟨sl0, cf0, ?_⟩⟩
  · have : Row (w.alloc (.cells (cfgA c s) 43)) w.heap.size (cfgL c s) 43 := heap_alloc_new w _
    exact this.alloc _
  · have := heap_alloc_new (w.alloc (.cells (cfgA c s) 43)) (.cells (cfgA cf0 sl0) 43)
    rw [World.size_alloc] at this
    exact this

theorem LSt.call {w wr wr' : World} {c : Cf} {s1 : Sl} {n : Nat} (h : LSt w wr c s1) (hb : Below n wr wr') (hn : n = wr.heap.size) : LSt w wr' c s1 := by
  subst hn
  refine ⟨below_step h.below hb rfl, h.box.below hb h.box.lt, ?_⟩
  obtain ⟨s2, c2, hr⟩ := h.res
  exact ⟨s2, c2, hr.below hb hr.lt⟩

theorem LSt.alloc {w wr : World} {c : Cf} {s1 : Sl} (h : LSt w wr c s1) (o : Obj) : LSt w (wr.alloc o) c s1 :=
  h.call ((Below.refl _ _).alloc (Nat.le_refl _) o) rfl

theorem LSt.other {w wr : World} {c : Cf} {s1 : Sl} (h : LSt w wr c s1) (g i : Nat) (v : Value) (hg : w.heap.size + 1 < g) : LSt w (wr.setCell ⟨g, i, none⟩ v) c s1 := by
  refine ⟨h.below.setCell (by simp; omega) _, h.box.setCellOther _ _ (by omega), ?_⟩
  obtain ⟨s2, c2, hr⟩ := h.res
  exact ⟨s2, c2, hr.setCellOther _ _ (by omega)⟩

theorem LSt.set7 {w wr : World} {c : Cf} {s1 : Sl} (h : LSt w wr c s1) (a : Option Addr) (l k : Nat) : LSt w (wr.setCell ⟨w.heap.size, 7, none⟩ (.slice a l k)) c { s1 with wa := a, wl := l, wc := k } := by
  refine ⟨h.below.setCell (Nat.le_refl _) _, h.box.setCell 7 _, ?_⟩
  obtain ⟨s2, c2, hr⟩ := h.res
  exact ⟨s2, c2, hr.setCellOther _ _ (by omega)⟩
theorem LSt.set9 {w wr : World} {c : Cf} {s1 : Sl} (h : LSt w wr c s1) (a : Option Addr) (l k : Nat) : LSt w (wr.setCell ⟨w.heap.size, 9, none⟩ (.slice a l k)) c { s1 with sa := a, sl := l, sc := k } := by
  refine ⟨h.below.setCell (Nat.le_refl _) _, h.box.setCell 9 _, ?_⟩
  obtain ⟨s2, c2, hr⟩ := h.res
  exact ⟨s2, c2, hr.setCellOther _ _ (by omega)⟩
theorem LSt.set10 {w wr : World} {c : Cf} {s1 : Sl} (h : LSt w wr c s1) (a : Option Addr) (l k : Nat) : LSt w (wr.setCell ⟨w.heap.size, 10, none⟩ (.slice a l k)) c { s1 with ta := a, tl := l, tc := k } := by
  refine ⟨h.below.setCell (Nat.le_refl _) _, h.box.setCell 10 _, ?_⟩
  obtain ⟨s2, c2, hr⟩ := h.res
  exact ⟨s2, c2, hr.setCellOther _ _ (by omega)⟩

theorem LSt.facts {w wr : World} {c : Cf} {s1 : Sl} (h : LSt w wr c s1) :
    (∀ o, wr.cell? ⟨w.heap.size, o, none⟩ = (cfgA c s1)[o]?) ∧ (∀ o, wr.frozen? ⟨w.heap.size, o, none⟩ = false) ∧
    ∃ s2 c2, (∀ o, wr.cell? ⟨w.heap.size + 1, o, none⟩ = (cfgA c2 s2)[o]?) ∧ (∀ o, wr.frozen? ⟨w.heap.size + 1, o, none⟩ = false) := by
  refine ⟨fun o => by rw [h.box.cell]; simp, fun o => h.box.frozen o, ?_⟩
  obtain ⟨s2, c2, hr⟩ := h.res
  exact ⟨s2, c2, fun o => by rw [hr.cell]; simp, fun o => hr.frozen o⟩

/-- The lists of a configuration that was lent, but for its turns. -/
structure LentW (w : World) (lo : Nat) (c : Cf) (s s1 : Sl) : Prop where
  ways : ∃ g, lo ≤ g ∧ LentI w s.wa c.ways s1.wa s1.wl s1.wc g
  slots : ∃ g, lo ≤ g ∧ LentI w s.sa c.slots s1.sa s1.sl s1.sc g

set_option maxRecDepth 100000 in
set_option maxHeartbeats 1000000 in
theorem lent_nil (c : Cf) (s : Sl) (w : World) (h : CfgAt w c s) (hc : CfR c) (hn : s.ta = none) :
    Calls Tryz.prog 29 #[cfgV c s] w fun e w' => ∃ s1, e = .returned (.tuple #[cfgV c s1, .slice none 0 0]) ∧ Below w.heap.size w w' ∧ LentW w' w.heap.size c s s1 ∧ s1.ta = none ∧ s1.tl = 0 ∧ s1.tc = 0 := by
  obtain ⟨wa, wl, wc, sa, sl, sc, ta, tl, tc⟩ := s
  subst hn
  obtain rfl : tc = 0 := h.turns.hnil rfl
  obtain rfl : tl = 0 := Nat.eq_zero_of_le_zero h.turns.hle
  have k0 := LSt.start w c ⟨wa, wl, wc, sa, sl, sc, none, 0, 0⟩
  have r1 := hc.ways
  rw [h.ways.hlen] at r1
  have r2 := hc.slots
  rw [h.slots.hlen] at r2
  go_enter Tryz.func29, Tryz.ntmps29
  go_wp2_with fail
  refine (lentInts_any wa wl wc c.ways _ (h.ways.below k0.below (Nat.le_refl _)) r1).mono ?_
  rintro e w1 ⟨va, vl, vc, rfl, l1, hb1, hz1⟩
  have k1 := k0.call hb1 rfl
  obtain ⟨q1, f1, s2, c2, q2, f2⟩ := k1.facts
  go_wp2_with fail
  have k2 := k1.set7 va vl vc
  have l2 : LentI (w1.setCell ⟨w.heap.size, 7, none⟩ (.slice va vl vc)) wa c.ways va vl vc (w.heap.size + 2) := by
    simp only [World.size_alloc] at l1
    exact l1.same (Below.heap_setCell _ _ _ _ (by simp; omega))
  have hz2 : w.heap.size + 2 ≤ (w1.setCell ⟨w.heap.size, 7, none⟩ (.slice va vl vc)).heap.size := by
    have := hb1.size
    simp only [World.size_alloc] at this
    simpa [World.setCell] using this
  clear q1 f1 q2 f2 hb1 hz1 l1 k0 k1
  generalize w1.setCell ⟨w.heap.size, 7, none⟩ (.slice va vl vc) = w2 at *
  clear w1 s2 c2
  refine (lentInts_any sa sl sc c.slots _ (h.slots.below k2.below (Nat.le_refl _)) r2).mono ?_
  rintro e w3 ⟨ua, ul, uc, rfl, l3, hb3, hz3⟩
  have k3 := k2.call hb3 rfl
  obtain ⟨q1, f1, s2, c2, q2, f2⟩ := k3.facts
  go_wp2
  have l2' := l2.below hb3 (Nat.le_refl _)
  refine bodyPost_ret (v := .tuple #[cfgV c ⟨va, vl, vc, ua, ul, uc, none, 0, 0⟩, .slice none 0 0]) (by simp [results, Tryz.results29, go_sem, q2]) rfl ⟨⟨va, vl, vc, ua, ul, uc, none, 0, 0⟩, rfl, ?_, ⟨⟨w.heap.size + 2, by omega, l2'.same ?_⟩, ⟨w2.heap.size, by omega, l3.same ?_⟩⟩, rfl, rfl, rfl⟩
  · iterate 14 refine Below.setCell ?_ (by simp) _
    exact k3.below
  · iterate 14 rw [Below.heap_setCell]
    all_goals (simp only []; omega)
  · iterate 14 rw [Below.heap_setCell]
    all_goals (simp only []; omega)
end Go.Proofs.YtehheaedbnfidaaGreat
