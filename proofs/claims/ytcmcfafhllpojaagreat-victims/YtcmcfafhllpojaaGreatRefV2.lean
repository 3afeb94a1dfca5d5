/-
  The walks of wallsref's Victim, and of wallslaw's chosen over a contract of Victim.
-/
import Derived.Test.YtcmcfafhllpojaaGreatRefV
import Derived.Test.YtcmcfafhllpojaaGreatStep3
namespace Go.Proofs.YtcmcfafhllpojaaGreat
open Go.RowKit

theorem victim_no {n : Int} {xs : List Int} (h : victimOk n xs = false) : victimE n xs = 6 ∧ victimN n xs = 0 := by simp [victimE, victimN, h]
theorem victim_yes {n : Int} {xs : List Int} (h : victimOk n xs = true) : victimE n xs = 0 ∧ victimN n xs = victimZ n xs := by simp [victimE, victimN, h]

set_option maxRecDepth 100000 in
set_option maxHeartbeats 800000 in
theorem rVictim_any (n : Int) (sa : Option Addr) (len cap : Nat) (xs : List Int) (w : World) (h : Ints w sa len cap xs) :
    Calls Tryz.prog 81 #[.int .i64 n, .slice sa len cap] w fun e w' => e = .returned (.tuple #[.int .i64 (victimN n xs), .int .i64 (victimE n xs)]) ∧ w' = w := by
  have hle := h.hle
  have hm := h.hmax
  unfold maxLen at hm
  have HL : Hid (xs.length = len) := h.hlen
  rcases Bool.eq_false_or_eq_true (smallB n) with hs | hs
  · have HS : Hid _ := hs
    go_enter Tryz.func81, Tryz.ntmps81
    go_wp2_with (go_at_call 132; refine (rsmall_any _ _).mono ?_; rintro e w' ⟨rfl, rfl⟩)
    go_loop [6] (fun i => ∃ k : Nat, k ≤ len ∧ i = .int .i64 k ∧ (xs.take k).all (fun x => withinB x 0 (n - 1)) = true) (fun i => len - (intOf i).toNat)
    case atStart => exact ⟨0, Nat.zero_le _, rfl, rfl⟩
    case round =>
      obtain ⟨k, hk, rfl, hall⟩ := hrel
      have HA : Hid _ := hall
      clear hall
      by_cases hlt : k < len
      · obtain ⟨b, off, rfl, hc⟩ := h.hat k hlt
        have HS2 : Hid _ := all_snoc (fun x => withinB x 0 (n - 1)) xs 0 k (by rw [h.hlen]; exact hlt)
        have HF : Hid _ := all_false_of (fun x => withinB x 0 (n - 1)) xs 0 k (by rw [h.hlen]; exact hlt)
        generalize xs.getD k 0 = x at *
        by_cases h1 : x < 0
        · have HN : Hid _ := victim_no (n := n) (xs := xs) (by unfold victimOk; rw [HF.out ((within_not _ _ _).2 (by omega))]; simp)
          go_wp2
          go_ret2
          exact ⟨ret_pair HN.out.2.symm HN.out.1.symm, rfl⟩
        · by_cases h2 : n ≤ x
          · have HN : Hid _ := victim_no (n := n) (xs := xs) (by unfold victimOk; rw [HF.out ((within_not _ _ _).2 (by omega))]; simp)
            go_wp2
            go_ret2
            exact ⟨ret_pair HN.out.2.symm HN.out.1.symm, rfl⟩
          · go_wp2
            go_round
            case rel => exact ⟨k + 1, by omega, by go_num, by rw [HS2.out, HA.out]; exact (within_iff _ _ _).2 (by omega)⟩
            case measure => simp [intOf]; omega
      · have HN : Hid _ := victim_yes (n := n) (xs := xs) (by
          have := HA.out
          rw [List.take_of_length_le (by rw [h.hlen]; omega)] at this
          unfold victimOk; rw [HS.out, this]; rfl)
        go_wp2_with (go_at_call 133; refine (rvictim_any _ _ _ _ xs _ h HS.out).mono ?_; rintro e w' ⟨rfl, rfl⟩)
        go_ret2
        exact ⟨ret_pair HN.out.2.symm HN.out.1.symm, rfl⟩
  · have HN : Hid _ := victim_no (n := n) (xs := xs) (by unfold victimOk; rw [hs]; rfl)
    go_enter Tryz.func81, Tryz.ntmps81
    go_wp2_with (go_at_call 132; refine (rsmall_any _ _).mono ?_; rintro e w' ⟨rfl, rfl⟩)
    go_ret2
    exact ⟨ret_pair HN.out.2.symm HN.out.1.symm, rfl⟩

/-- What the caller has touched, as a list that reads. -/
theorem WSt.reads {w : World} {gw base : Nat} {o : Own} {m e p b : Value} {ts : List Int} {os : List (Int × Int × Int)} (h : WSt w gw base o m e p b ts os) : Ints w o.ta o.tl o.tc ts := by
  obtain ⟨h1, h2⟩ := h.tou
  rcases h2 with ⟨h3, h4⟩ | ⟨g, cap, cur, hv, hg, hh, hn, hm, hs, ht⟩
  · simp only [Value.slice.injEq] at h3
    obtain ⟨e1, e2, e3⟩ := h3
    rw [e1, e2, e3]
    have : ts = [] := List.eq_nil_of_length_eq_zero h4
    subst this
    exact ⟨rfl, Nat.le_refl _, by unfold maxLen; omega, fun _ => rfl, fun i hi => absurd hi (Nat.not_lt_zero _)⟩
  · simp only [Value.slice.injEq] at hv
    obtain ⟨e1, e2, e3⟩ := hv
    rw [e1, e2, e3]
    refine ⟨rfl, hn, hm, (fun h => by cases h), fun i hi => ⟨g, 0, rfl, ?_⟩⟩
    have hr : Row w g cur.toList 3 := by unfold Row; simpa using hh
    rw [Nat.zero_add, hr.cell]
    have e4 : cur.toList[i]? = (cur.toList.take (ts.length * 1))[i]? := by
      rw [List.getElem?_take, if_pos (by omega)]
    rw [e4, ht, List.getElem?_map]
    simp [List.getD, hi]

set_option maxRecDepth 100000 in
set_option maxHeartbeats 1600000 in
theorem chosen_any (gw base : Nat) (o : Own) (m e p b : Value) (ts : List Int) (os : List (Int × Int × Int)) (n : Int) (w : World) (h : WSt w gw base o m e p b ts os) (hr : ts.length * 8 ≤ 140737488351232)
    (hv : ∀ (sa : Option Addr) (len cap : Nat) (xs : List Int) (w : World), Ints w sa len cap xs → Calls Tryz.prog 80 #[.int .i64 n, .slice sa len cap] w fun e w' => e = .returned (.tuple #[.int .i64 (victimN n xs), .int .i64 (victimE n xs)]) ∧ Below w.heap.size w w') :
    Calls Tryz.prog 43 #[.pointer (some ⟨gw, 0, none⟩), .int .i64 n] w fun x w' => x = .returned (.bool true) ∧ Below w.heap.size w w' := by
  have HV : Hid _ := hv
  clear hv
  have hi := h.reads
  have rz : o.tl * 8 ≤ 140737488351232 := by have := hi.hlen; omega
  have c1 : w.cell? ⟨gw, 1, none⟩ = some (.slice o.ta o.tl o.tc) := by rw [h.row.cell]; rfl
  go_enter Tryz.func43, Tryz.ntmps43
  go_wp2_with fail
  refine (lentInts_any _ _ _ ts _ hi rz).mono ?_
  rintro x w1 ⟨va, vl, vc, rfl, l1, b1, _⟩
  have h1 := h.below b1 rfl
  have c1' : w1.cell? ⟨gw, 1, none⟩ = some (.slice o.ta o.tl o.tc) := by rw [h1.row.cell]; rfl
  have i1 := l1.ints hi rz
  clear c1
  go_wp2_with fail
  refine (HV.out _ _ _ ts _ i1).mono ?_
  rintro x w2 ⟨rfl, b2⟩
  have h2 := h1.below b2 rfl
  have c2 : w2.cell? ⟨gw, 1, none⟩ = some (.slice o.ta o.tl o.tc) := by rw [h2.row.cell]; rfl
  have l2 := l1.below b2 (Nat.le_refl _)
  clear c1'
  go_wp2_with fail
  refine (rVictim_any n _ _ _ ts _ h2.reads).mono ?_
  rintro x w' ⟨rfl, rfl⟩
  go_wp2_with fail
  refine (wholeInts_any _ _ _ ts _ _ _ _ _ h2.reads rz l2).mono ?_
  rintro x w' ⟨rfl, rfl⟩
  have e1 : (victimN n ts == victimN n ts) = true := by simp
  have e2 : (victimE n ts == victimE n ts) = true := by simp
  have B : Hid _ := below_step b1 b2 rfl
  go_wp2
  go_ret
  exact ⟨rfl, B.out⟩
end Go.Proofs.YtcmcfafhllpojaaGreat
