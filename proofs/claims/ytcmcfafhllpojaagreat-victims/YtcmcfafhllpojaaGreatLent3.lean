/-
  The walks of wallslaw's lent.go: spoilInts, shows.
-/
import Derived.Test.YtcmcfafhllpojaaGreatLent2
namespace Go.Proofs.YtcmcfafhllpojaaGreat
open Go.RowKit
attribute [local go_sem] Tryz.nilInts Tryz.nilGrid

set_option maxRecDepth 100000 in
set_option maxHeartbeats 400000 in
theorem spoilInts_none (v : Int) (w : World) :
    Calls Tryz.prog 135 #[.slice none 0 0, .int .i64 v] w fun e w' => e = .returned (.tuple #[]) ∧ w' = w := by
  go_enter Tryz.func135, Tryz.ntmps135
  go_wp2
  refine bodyPost_ret (results_none rfl _ _ _) rfl ?_
  exact ⟨rfl, rfl⟩

/-- A row of which the first k cells are spoilt. -/
def spoilt (A : List Value) (v : Int) (k : Nat) : List Value := List.replicate k (.int .i64 v) ++ A.drop k

theorem spoilt_len (A : List Value) (v : Int) (k : Nat) (h : k ≤ A.length) : (spoilt A v k).length = A.length := by simp [spoilt]; omega
theorem spoilt_zero (A : List Value) (v : Int) : spoilt A v 0 = A := by simp [spoilt]
theorem spoilt_all (A : List Value) (v : Int) (k : Nat) (h : A.length = k) : spoilt A v k = List.replicate k (.int .i64 v) := by
  simp [spoilt, List.drop_of_length_le (by omega : A.length ≤ k)]
theorem spoilt_get (A : List Value) (v : Int) (k : Nat) : (spoilt A v k)[k]? = A[k]? := by
  unfold spoilt
  rw [List.getElem?_append_right (by simp)]
  simp
theorem spoilt_set (A : List Value) (v : Int) (k : Nat) (h : k < A.length) : (spoilt A v k).toArray.setIfInBounds k (.int .i64 v) = (spoilt A v (k + 1)).toArray := by
  apply Array.ext_getElem?
  intro i
  simp only [List.setIfInBounds_toArray, List.getElem?_toArray]
  rw [List.getElem?_set, spoilt_len A v k (by omega)]
  unfold spoilt
  by_cases he : k = i
  · subst he
    rw [if_pos rfl, if_pos h, List.getElem?_append_left (by simp), List.getElem?_replicate, if_pos (by omega)]
  · rw [if_neg he]
    by_cases h1 : i < k
    · rw [List.getElem?_append_left (by simpa using h1), List.getElem?_append_left (by simp; omega), List.getElem?_replicate, List.getElem?_replicate, if_pos h1, if_pos (by omega)]
    · rw [List.getElem?_append_right (by simp; omega), List.getElem?_append_right (by simp; omega), List.getElem?_drop, List.getElem?_drop]
      simp only [List.length_replicate]
      congr 1
      omega

set_option maxRecDepth 100000 in
set_option maxHeartbeats 400000 in
theorem spoilInts_some (g len : Nat) (A : List Value) (v : Int) (w : World) (hr : len * 8 ≤ 140737488351232) (hA : A.length = len + 8) (hg : Row w g A 3) :
    Calls Tryz.prog 135 #[.slice (some ⟨g, 0, none⟩) len (len + 8), .int .i64 v] w fun e w' => e = .returned (.tuple #[]) ∧ w' = w.setRow g (List.replicate (len + 8) (.int .i64 v)).toArray := by
  have HA : Hid (A.length = len + 8) := hA
  clear hA
  go_enter Tryz.func135, Tryz.ntmps135
  go_wp2
  go_loopw [5] (fun i wr => ∃ k : Nat, k ≤ len + 8 ∧ i = .int .i64 k ∧ wr = w.setRow g (spoilt A v k).toArray) (fun i _ => len + 8 - (intOf i).toNat)
  case atStart => exact ⟨0, by omega, rfl, by rw [spoilt_zero, hg.setSame]⟩
  case round =>
    obtain ⟨k, hk, rfl, hwr⟩ := hrel
    have HW : Hid _ := hwr
    by_cases hlt : k < len + 8
    · have hrow : Row wr g (spoilt A v k) 3 := by rw [hwr]; exact hg.set
      have hget : ∃ x, A[k]? = some x := ⟨A[k]'(by rw [HA.out]; exact hlt), List.getElem?_eq_getElem _⟩
      obtain ⟨x, hx⟩ := hget
      have c1 : wr.cell? ⟨g, k, none⟩ = some x := by rw [hrow.cell, spoilt_get A v k, hx]
      have c2 : wr.frozen? ⟨g, k, none⟩ = false := hrow.frozen k
      clear hwr hrow hx
      go_wp2
      go_roundw
      case rel =>
        refine ⟨k + 1, by omega, by go_num, ?_⟩
        rw [HW.out, setRow_setCell, spoilt_set A v k (by rw [HA.out]; exact hlt)]
      case measure => simp [intOf]; omega
    · have e : k = len + 8 := by omega
      subst e
      clear hwr
      go_wp2
      go_end0
      exact ⟨rfl, by rw [HW.out, spoilt_all A v (len + 8) HA.out]⟩

set_option maxRecDepth 100000 in
set_option maxHeartbeats 400000 in
theorem shows_any (sa : Option Addr) (len cap : Nat) (v : Int) (w : World) (h : Ints w sa len cap (List.replicate len v)) :
    Calls Tryz.prog 165 #[.slice sa len cap, .int .i64 len, .int .i64 v] w fun e w' => e = .returned (.bool true) ∧ w' = w := by
  have hle := h.hle
  have hm := h.hmax
  unfold maxLen at hm
  have hx : ((len : Int) != (len : Int)) = false := by simp
  have hv : (v != v) = false := by simp
  go_enter Tryz.func165, Tryz.ntmps165
  go_wp2
  go_loop [7] (fun i => ∃ k : Nat, k ≤ len ∧ i = .int .i64 k) (fun i => len - (intOf i).toNat)
  case atStart => exact ⟨0, by omega, rfl⟩
  case round =>
    obtain ⟨k, hk, rfl⟩ := hrel
    by_cases hlt : k < len
    · obtain ⟨b, off, rfl, hc0⟩ := h.hat k hlt
      have hc : w.cell? ⟨b, off + k, none⟩ = some (.int .i64 v) := by rw [hc0]; simp [List.getD, hlt]
      clear hc0
      go_wp2
      go_round
      case rel => exact ⟨k + 1, by omega, by go_num⟩
      case measure => simp [intOf]; omega
    · go_wp2
      go_ret
      exact ⟨rfl, rfl⟩
end Go.Proofs.YtcmcfafhllpojaaGreat
