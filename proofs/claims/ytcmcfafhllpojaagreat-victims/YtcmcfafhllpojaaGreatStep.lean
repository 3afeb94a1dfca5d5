/-
  The walks of wallslaw's pick, among, looks.
-/
import Derived.Test.YtcmcfafhllpojaaGreatOwner2
import Derived.Test.YtcmcfafhllpojaaGreatMath
namespace Go.Proofs.YtcmcfafhllpojaaGreat
open Go.RowKit

def pickZ (c n : Int) : Int := (if c < 0 then -(c + 1) else c) % n

theorem pickZ_bd (c n : Int) (hn : 0 < n) : 0 ≤ pickZ c n ∧ pickZ c n < n := by
  unfold pickZ
  exact ⟨Int.emod_nonneg _ (by omega), Int.emod_lt_of_pos _ hn⟩

set_option maxRecDepth 100000 in
set_option maxHeartbeats 400000 in
theorem pick_any (c n : Int) (w : World) (h1 : -9223372036854775808 ≤ c) (h2 : c ≤ 9223372036854775807) (hn : 0 < n) (hn2 : n ≤ 9223372036854775807) :
    Calls Tryz.prog 44 #[.int .i64 c, .int .i64 n] w fun e w' => e = .returned (.int .i64 (pickZ c n)) ∧ w' = w := by
  have hn0 : ¬ n = 0 := by omega
  by_cases hc : c < 0
  · have g1 : 0 ≤ -(c + 1) := by omega
    go_enter Tryz.func44, Tryz.ntmps44
    go_wp2
    go_ret
    refine ⟨ret_int ?_, rfl⟩
    rw [pickZ, if_pos hc, ← Int.tmod_eq_emod_of_nonneg g1, Int.neg_tmod]
  · have g1 : 0 ≤ c := by omega
    go_enter Tryz.func44, Tryz.ntmps44
    go_wp2
    go_ret
    refine ⟨ret_int ?_, rfl⟩
    rw [pickZ, if_neg (by omega)]

set_option maxHeartbeats 400000 in
theorem among_any (sa : Option Addr) (len cap : Nat) (xs : List Int) (x : Int) (w : World) (h : Ints w sa len cap xs) :
    Calls Tryz.prog 22 #[.slice sa len cap, .int .i64 x] w fun e w' => e = .returned (.bool (xs.contains x)) ∧ w' = w := by
  have hle := h.hle
  have hm := h.hmax
  unfold maxLen at hm
  have HL : Hid (xs.length = len) := h.hlen
  go_enter Tryz.func22, Tryz.ntmps22
  go_wp2
  go_loop [5] (fun i => ∃ k : Nat, k ≤ len ∧ i = .int .i64 k ∧ (xs.take k).contains x = false) (fun i => len - (intOf i).toNat)
  case atStart => exact ⟨0, Nat.zero_le _, rfl, rfl⟩
  case round =>
    obtain ⟨k, hk, rfl, hall⟩ := hrel
    have HA : Hid _ := hall
    clear hall
    by_cases hlt : k < len
    · obtain ⟨b, off, rfl, hc⟩ := h.hat k hlt
      have hlt' : k < xs.length := by rw [HL.out]; exact hlt
      have hy : xs.getD k 0 = xs[k] := by simp [List.getD, hlt']
      have HY : Hid _ := hy
      rw [hy] at hc
      clear hy
      rcases Bool.eq_false_or_eq_true (xs[k] == x) with hx | hx
      · go_wp2
        go_ret
        refine ⟨ret_bool ?_, rfl⟩
        have e : xs[k] = x := by simpa using hx
        symm
        rw [decide_eq_true_iff, ← e]
        exact List.getElem_mem hlt'
      · go_wp2
        go_round
        case rel =>
          refine ⟨k + 1, by omega, by go_num, ?_⟩
          have h1 := HA.out
          have e : ¬ xs[k] = x := by simpa using hx
          rw [List.take_succ_eq_append_getElem hlt']
          simp only [List.contains_eq_mem, List.mem_append, decide_eq_false_iff_not] at h1 ⊢
          simp only [List.mem_cons, List.not_mem_nil, or_false]
          intro h2
          rcases h2 with h2 | h2
          · exact h1 h2
          · exact e h2.symm
        case measure => simp [intOf]; omega
    · go_wp2
      go_ret
      refine ⟨ret_bool ?_, rfl⟩
      have h1 := HA.out
      rw [List.take_of_length_le (by rw [HL.out]; omega)] at h1
      rw [← List.contains_eq_mem]
      exact h1.symm

set_option maxRecDepth 100000 in
set_option maxHeartbeats 400000 in
theorem looks_none (gw base : Nat) (o : Own) (m : Value) (ts : List Int) (os : List (Int × Int × Int)) (w : World) (h : WSt w gw base o m (.slice none 0 0) (.slice none 0 0) (.slice none 0 0) ts os) :
    Calls Tryz.prog 24 #[.pointer (some ⟨gw, 0, none⟩)] w fun x w' => x = .returned (.bool true) ∧ w' = w := by
  have c4 : w.cell? ⟨gw, 4, none⟩ = some (.slice none 0 0) := by rw [h.row.cell]; rfl
  have c5 : w.cell? ⟨gw, 5, none⟩ = some (.slice none 0 0) := by rw [h.row.cell]; rfl
  have c6 : w.cell? ⟨gw, 6, none⟩ = some (.slice none 0 0) := by rw [h.row.cell]; rfl
  go_enter Tryz.func24, Tryz.ntmps24
  go_wp2
  refine wp_loop_rounds 1 ?_
  rw [rounds_succ]
  go_wp2
  refine wp_loop_rounds 1 ?_
  rw [rounds_succ]
  go_wp2
  refine wp_loop_rounds 1 ?_
  rw [rounds_succ]
  go_wp2
  go_ret
  exact ⟨rfl, rfl⟩
end Go.Proofs.YtcmcfafhllpojaaGreat
