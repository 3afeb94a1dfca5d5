/-
  The walk of wallskeep's Spared, over a contract of Victim.
-/
import Derived.Test.YtcmcfafhllpojaaRowC
import Derived.Test.YtcmcfafhllpojaaMathS
import Derived.Test.YtcmcfafhllpojaaVictimC
import Derived.Deep.RegionLaw
import Derived.Deep.AppendLies
import Derived.Deep.QuietTactic
import Derived.BigQuiet
namespace Go.Proofs.Ytcmcfafhllpojaa
open Go.RowKit

theorem victim_no {n : Int} {xs : List Int} (h : victimOk n xs = false) : victimE n xs = 6 ∧ victimN n xs = 0 := by simp [victimE, victimN, h]
theorem victim_yes {n : Int} {xs : List Int} (h : victimOk n xs = true) : victimE n xs = 0 ∧ victimN n xs = victimZ n xs := by simp [victimE, victimN, h]

/-- The ways of which some of the first k victims is each. -/
def goneL (n : Nat) (xs : List Int) (k : Nat) : List Value := (List.range n).map fun (j : Nat) => .bool ((List.range k).any fun i => vk n xs i == (j : Int))

theorem goneL_at {n : Nat} {xs : List Int} {k j : Nat} (hj : j < n) : (goneL n xs k)[j]? = some (.bool ((List.range k).any fun i => vk n xs i == (j : Int))) := by
  unfold goneL
  rw [List.getElem?_map]
  simp [hj]

theorem goneL_set {n : Nat} {xs : List Int} {k j : Nat} (hv : vk n xs k = (j : Int)) : (goneL n xs k).set j (.bool true) = goneL n xs (k + 1) := by
  apply List.ext_getElem?
  intro i
  by_cases hi : i < n
  · rw [goneL_at hi, List.getElem?_set]
    have hl : (goneL n xs k).length = n := by simp [goneL]
    by_cases e : j = i
    · subst e
      rw [if_pos rfl, if_pos (by omega), List.range_succ, List.any_append]
      simp [hv]
    · rw [if_neg e, goneL_at hi, List.range_succ, List.any_append]
      have : (vk n xs k == (i : Int)) = false := by
        rw [hv]; simp; omega
      simp [this]
  · rw [List.getElem?_eq_none (by simp [goneL]; omega), List.getElem?_eq_none (by simp [goneL]; omega)]

theorem made_bool (n : Nat) (xs : List Int) : madeCells (Value.bool false).cells n = (goneL n xs 0).toArray := by
  apply Array.ext_getElem?
  intro i
  simp only [madeCells, Value.cells, Array.getElem?_map, List.getElem?_toArray]
  by_cases h : i < n
  · rw [goneL_at h]; simp [h, Nat.mod_one]
  · rw [List.getElem?_eq_none (by simp [goneL]; omega)]
    simp [h]

theorem vk_fresh {n : Nat} (hn : n = 1 ∨ n = 2 ∨ n = 4) (xs : List Int) {k : Nat} (hk : k < n) : 0 ≤ vk n xs k ∧ vk n xs k < n ∧ ((List.range k).any fun i => vk n xs i == vk n xs k) = false := by
  rcases hn with rfl | rfl | rfl
  · obtain rfl : k = 0 := by omega
    have e : vk (1 : Nat) xs 0 = 0 := by simp [vk, victimZ]
    rw [e]
    simp
  · have b : ∀ j, 0 ≤ vk (2 : Nat) xs j ∧ vk (2 : Nat) xs j < 2 := fun j => by
      have := vict2_bd (latestZ (after 2 xs j) 0 2)
      rwa [← victim2_eq] at this
    have h2 := vk2 xs
    refine ⟨(b k).1, (b k).2, ?_⟩
    match k, hk with
    | 0, _ => rfl
    | 1, _ => simpa [List.range_succ] using h2.symm
  · obtain ⟨b0, b1, b2, b3, n10, n20, n21, n30, n31, n32⟩ := vk4 xs
    match k, hk with
    | 0, _ => exact ⟨b0.1, b0.2, rfl⟩
    | 1, _ => exact ⟨b1.1, b1.2, by simpa [List.range_succ] using n10.symm⟩
    | 2, _ => exact ⟨b2.1, b2.2, by simpa [List.range_succ] using ⟨n20.symm, n21.symm⟩⟩
    | 3, _ => exact ⟨b3.1, b3.2, by simpa [List.range_succ] using ⟨n30.symm, n31.symm, n32.symm⟩⟩

theorem after_len (n : Int) (xs : List Int) : ∀ k, (after n xs k).length = xs.length + k
  | 0 => rfl
  | k + 1 => by simp only [after, List.length_append, after_len n xs k, List.length_singleton]; omega

theorem after_ok {n : Nat} (hn : n = 1 ∨ n = 2 ∨ n = 4) (xs : List Int) (h : victimOk n xs = true) : ∀ k, k ≤ n → victimOk n (after n xs k) = true
  | 0, _ => h
  | k + 1, hk => by
    have ih := after_ok hn xs h k (by omega)
    obtain ⟨h1, h2, _⟩ := vk_fresh hn xs (k := k) (by omega)
    unfold victimOk at ih ⊢
    simp only [Bool.and_eq_true] at ih ⊢
    refine ⟨ih.1, ?_⟩
    simp only [after, List.all_append, Bool.and_eq_true]
    refine ⟨ih.2, ?_⟩
    simp only [List.all_cons, List.all_nil, Bool.and_true]
    exact (within_iff _ _ _).2 ⟨h1, by unfold vk at h2; omega⟩

/-- The way that was touched last is not the victim. -/
theorem not_last {n : Nat} (hn : n = 2 ∨ n = 4) (xs : List Int) (h : victimOk n xs = true) (h0 : 0 < xs.length) : (victimZ n xs == xs.getD (xs.length - 1) 0) = false := by
  have hx : xs = xs.take (xs.length - 1) ++ [xs.getD (xs.length - 1) 0] := by
    have := List.take_succ_eq_append_getElem (l := xs) (i := xs.length - 1) (by omega)
    rw [show xs.length - 1 + 1 = xs.length by omega, List.take_length] at this
    have e : xs.getD (xs.length - 1) 0 = xs[xs.length - 1] := by rw [List.getD_eq_getElem?_getD, List.getElem?_eq_getElem (by omega)]; rfl
    rw [e]
    exact this
  have hv : withinB (xs.getD (xs.length - 1) 0) 0 (n - 1) = true := by
    unfold victimOk at h
    simp only [Bool.and_eq_true, List.all_eq_true] at h
    refine h.2 _ ?_
    rw [List.getD_eq_getElem?_getD, List.getElem?_eq_getElem (by omega)]
    exact List.getElem_mem _
  have hb := (within_iff _ _ _).1 hv
  generalize xs.getD (xs.length - 1) 0 = v at *
  rw [hx]
  rcases hn with rfl | rfl
  · simpa using spared2 _ v hb.1 (by omega)
  · simpa using spared4 _ v hb.1 (by omega)

/-- A list that a value owns, as a list that reads. -/
theorem owns_ints {w : World} {base : Nat} {a : Option Addr} {len cap : Nat} {xs : List Int} (h : w.ownsRow base 3 1 (.slice a len cap) xs.length (xs.map (Value.int .i64))) : Ints w a len cap xs := by
  obtain ⟨h1, h2⟩ := h
  rcases h2 with ⟨h3, h4⟩ | ⟨g, cap, cur, hv, hg, hh, hn, hm, hs, ht⟩
  · simp only [Value.slice.injEq] at h3
    obtain ⟨e1, e2, e3⟩ := h3
    rw [e1, e2, e3]
    have : xs = [] := List.eq_nil_of_length_eq_zero h4
    subst this
    exact ⟨rfl, Nat.le_refl _, by unfold maxLen; omega, fun _ => rfl, fun i hi => absurd hi (Nat.not_lt_zero _)⟩
  · simp only [Value.slice.injEq] at hv
    obtain ⟨e1, e2, e3⟩ := hv
    rw [e1, e2, e3]
    refine ⟨rfl, hn, hm, (fun h => by cases h), fun i hi => ⟨g, 0, rfl, ?_⟩⟩
    have hr : Row w g cur.toList 3 := by unfold Row; simpa using hh
    rw [Nat.zero_add, hr.cell]
    have e4 : cur.toList[i]? = (cur.toList.take (xs.length * 1))[i]? := by
      rw [List.getElem?_take, if_pos (by omega)]
    rw [e4, ht, List.getElem?_map]
    simp [List.getD, hi]

theorem ok_false {n : Int} {xs : List Int} {k : Nat} (h : (smallB n && (xs.take k).all fun x => withinB x 0 (n - 1)) = false) : victimOk n xs = false := by
  cases hv : victimOk n xs with
  | false => rfl
  | true =>
    exfalso
    unfold victimOk at hv
    simp only [Bool.and_eq_true, List.all_eq_true] at hv
    rw [hv.1, Bool.true_and] at h
    have : ((xs.take k).all fun x => withinB x 0 (n - 1)) = true := List.all_eq_true.2 fun x hx => hv.2 x (List.mem_of_mem_take hx)
    rw [this] at h
    cases h

set_option maxRecDepth 100000 in
set_option maxHeartbeats 1600000 in
theorem spared_not (hV : VictimC) (n : Int) (sa : Option Addr) (len cap : Nat) (xs : List Int) (w : World) (h : Ints w sa len cap xs) (hno : victimOk n xs = false) :
    Calls Try.prog 4 #[.int .i64 n, .slice sa len cap] w fun e w' => e = .returned (.bool true) ∧ Below w.heap.size w w' := by
  have hle := h.hle
  have hm := h.hmax
  unfold maxLen at hm
  have HN := victim_no hno
  have hv := hV n sa len cap xs w h
  rw [HN.1, HN.2] at hv
  have HNO : Hid _ := hno
  have HL : Hid _ := h.hlen
  clear HN hno
  go_enter Try.func4, Try.ntmps4
  go_wp2_with fail
  refine hv.mono ?_
  rintro x w1 ⟨rfl, b1⟩
  have h1 := h.below b1 (Nat.le_refl _)
  go_wp2
  all_goals
    go_loop [7, 8] (fun m i => ∃ k : Nat, k ≤ len ∧ i = .int .i64 k ∧ m = .bool (smallB n && (xs.take k).all fun x => withinB x 0 (n - 1))) (fun _ i => len - (intOf i).toNat)
    case atStart => exact ⟨0, Nat.zero_le _, rfl, by simp [smallB, *]⟩
    case round =>
      obtain ⟨k, hk, rfl, rfl⟩ := hrel
      by_cases hlt : k < len
      · obtain ⟨b, off, rfl, hc⟩ := h1.hat k hlt
        have HS : Hid _ := all_snoc (fun x => withinB x 0 (n - 1)) xs 0 k (by rw [HL.out]; exact hlt)
        cases hb : (smallB n && (xs.take k).all fun x => withinB x 0 (n - 1)) with
        | false =>
          have HB : Hid _ := hb
          clear hb
          go_wp2
          go_round
          case rel =>
            refine ⟨k + 1, by omega, by go_num, ?_⟩
            rw [HS.out, ← Bool.and_assoc, HB.out]
            rfl
          case measure => simp [intOf]; omega
        | true =>
          have HB : Hid _ := hb
          clear hb
          generalize xs.getD k 0 = x at *
          have HW : Hid (withinB x 0 (n - 1) = (decide (0 ≤ x) && decide (x < n))) := by
            unfold withinB Hid
            congr 1
            exact decide_eq_decide.2 (by omega)
          by_cases x0 : 0 ≤ x
          · by_cases x1 : x < n
            · go_wp2
              go_round
              case rel =>
                refine ⟨k + 1, by omega, by go_num, ?_⟩
                rw [HS.out, ← Bool.and_assoc, HB.out, HW.out]
                simp [*]
              case measure => simp [intOf]; omega
            · go_wp2
              go_round
              case rel =>
                refine ⟨k + 1, by omega, by go_num, ?_⟩
                rw [HS.out, ← Bool.and_assoc, HB.out, HW.out]
                simp [*]
              case measure => simp [intOf]; omega
          · go_wp2
            go_round
            case rel =>
              refine ⟨k + 1, by omega, by go_num, ?_⟩
              rw [HS.out, ← Bool.and_assoc, HB.out, HW.out]
              simp [*]
            case measure => simp [intOf]; omega
      · have e : (smallB n && (xs.take k).all fun x => withinB x 0 (n - 1)) = false := by
          rw [List.take_of_length_le (by rw [HL.out]; omega)]; exact HNO.out
        rw [e]
        clear e
        go_wp2
        go_ret
        exact ⟨rfl, b1⟩
end Go.Proofs.Ytcmcfafhllpojaa
