/-
  The walks of wallslaw's lent.go: lentInts of nil, wholeInts, spoilInts, shows.
-/
import Derived.Test.YtcmcfafhllpojaaGreatLent
namespace Go.Proofs.YtcmcfafhllpojaaGreat
open Go.RowKit
attribute [local go_sem] Tryz.nilInts Tryz.nilGrid

set_option maxRecDepth 100000 in
set_option maxHeartbeats 400000 in
theorem lentInts_none (w : World) :
    Calls Tryz.prog 79 #[.slice none 0 0] w fun e w' => e = .returned (.slice none 0 0) ∧ w' = w := by
  go_enter Tryz.func79, Tryz.ntmps79
  go_wp2
  go_ret
  exact ⟨rfl, rfl⟩

set_option maxRecDepth 100000 in
set_option maxHeartbeats 400000 in
theorem wholeInts_none (oa : Option Addr) (ol oc : Nat) (w : World) :
    Calls Tryz.prog 82 #[.slice oa ol oc, .slice none 0 0] w fun e w' => e = .returned (.bool true) ∧ w' = w := by
  go_enter Tryz.func82, Tryz.ntmps82
  go_wp2
  go_ret
  exact ⟨rfl, rfl⟩

theorem lent_get {xs : List Int} {len i : Nat} (hl : xs.length = len) (hi : i < len) : (lentL xs 8)[i]? = some (.int .i64 (xs.getD i 0)) := by
  rw [lentL_get xs 8 i (Nat.le_refl _), if_pos (by omega)]
  simp [List.getD, List.getElem?_eq_getElem (show i < xs.length by omega)]
theorem lent_get_past {xs : List Int} {len i : Nat} (hl : xs.length = len) (hi : len ≤ i) (h8 : i < len + 8) : (lentL xs 8)[i]? = some (.int .i64 77) := by
  rw [lentL_get xs 8 i (Nat.le_refl _), if_neg (by omega), if_pos (by omega)]

set_option maxRecDepth 100000 in
set_option maxHeartbeats 400000 in
theorem wholeInts_some (g : Nat) (sa : Addr) (len cap : Nat) (xs : List Int) (w : World) (h : Ints w (some sa) len cap xs) (hr : len * 8 ≤ 140737488351232) (hg : Row w g (lentL xs 8) 3) :
    Calls Tryz.prog 82 #[.slice (some ⟨g, 0, none⟩) len (len + 8), .slice (some sa) len cap] w fun e w' => e = .returned (.bool true) ∧ w' = w := by
  have HL : Hid (xs.length = len) := h.hlen
  have hle := h.hle
  go_enter Tryz.func82, Tryz.ntmps82
  go_wp2
  go_loop [7] (fun i => ∃ k : Nat, k ≤ len + 8 ∧ i = .int .i64 k) (fun i => len + 8 - (intOf i).toNat)
  case atStart => exact ⟨0, by omega, rfl⟩
  case round =>
    obtain ⟨k, hk, rfl⟩ := hrel
    by_cases hlt : k < len
    · obtain ⟨b, off, hsa, hc⟩ := h.hat k hlt
      simp only [Option.some.injEq] at hsa
      subst hsa
      have c1 : w.cell? ⟨g, k, none⟩ = some (.int .i64 (xs.getD k 0)) := by rw [hg.cell, lent_get HL.out hlt]
      generalize xs.getD k 0 = x at *
      have hx : (x != x) = false := by simp
      have hk8 : k < len + 8 := by omega
      go_wp2
      go_round
      case rel => exact ⟨k + 1, by omega, by go_num⟩
      case measure => simp [intOf]; omega
    · by_cases hk8 : k < len + 8
      · have c1 : w.cell? ⟨g, k, none⟩ = some (.int .i64 77) := by rw [hg.cell, lent_get_past HL.out (by omega) hk8]
        go_wp2
        go_round
        case rel => exact ⟨k + 1, by omega, by go_num⟩
        case measure => simp [intOf]; omega
      · go_wp2
        go_ret
        exact ⟨rfl, rfl⟩
end Go.Proofs.YtcmcfafhllpojaaGreat
