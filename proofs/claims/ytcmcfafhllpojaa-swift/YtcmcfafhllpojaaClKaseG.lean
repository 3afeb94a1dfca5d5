/-
  The walk of the law Swift.
-/
import Derived.Test.YtcmcfafhllpojaaClKaseF
namespace Go.Proofs.Ytcmcfafhllpojaa
open Go.RowKit

set_option maxRecDepth 100000 in
set_option maxHeartbeats 6400000 in
theorem swift_any (x : Cs) (l : Cl) (k : Int) (w : World) (h : CaseAt w x l) (hk0 : -9223372036854775808 ≤ k) (hk1 : k ≤ 9223372036854775807) :
    Calls Try.prog 6 #[csV x l, .int .i64 k] w fun e w' => e = .returned (.bool true) ∧ Below w.heap.size w w' := by
  have hb0 : Below w.heap.size w (w.alloc (.cells (csA x l) 39)) := (Below.refl _ _).alloc (Nat.le_refl _) _
  have hR0 : Row (w.alloc (.cells (csA x l) 39)) w.heap.size (csL x l) 39 := heap_alloc_new w _
  have h0 := h.below hb0 (Nat.le_refl _)
  have HR0 : Hid (Row (w.alloc (.cells (csA x l) 39)) w.heap.size (csL x l) 39) := hR0
  have HB0 : Hid _ := hb0
  have HCA : Hid _ := h
  by_cases hz : chk x.c = 0
  · have hMc := kmachine_good x l _ h0 hz
    have R := right_of hz
    obtain ⟨nc, hnc⟩ : ∃ nc, x.c.cores.toNat = nc := ⟨_, rfl⟩
    obtain ⟨nd, hnd⟩ : ∃ nd, x.c.domains.toNat = nd := ⟨_, rfl⟩
    have HEC : Hid ((nc : Int) = x.c.cores) := by unfold Hid; have := R.c1; omega
    have HED : Hid ((nd : Int) = x.c.domains) := by unfold Hid; have := R.d1; omega
    have hc3 : nc ≤ 3 := by have := R.c2; omega
    have hd4 : nd ≤ 4 := by have := R.d2; omega
    have HNC : Hid _ := hnc
    have HZ : Hid _ := hz
    have hPk := fun w' => kpick_any k 65 (by omega) (by omega) hk0 hk1 w'
    clear hz R hb0 h0 h hnc hnd hk0 hk1
    go_enter Try.func6, Try.ntmps6
    go_wp2_with (refine wpList_load_row (by rfl) 39 (.tmp 2) (by rfl) w.heap.size (by rfl) 39 (csL x l).toArray (0, 0) _ hR0 Try.underlying39 (by rfl) (size_case x l) ?_)
    refine hMc.mono ?_; rintro e w1 ⟨X, rfl, hK⟩
    have R1 : Row w1 w.heap.size (csL x l) 39 := Row.below HR0.out hK.bel (by simp)
    have B1 : Below w.heap.size w w1 := below_step HB0.out hK.bel rfl
    have HR1 : Hid (Row w1 w.heap.size (csL x l) 39) := R1
    have HB1 : Hid _ := B1
    clear hMc hR0 hK R1 B1
    go_wp2_with fail
    refine (hPk w1).mono ?_; rintro e w2 ⟨q, hq, rfl, rfl⟩
    clear hPk
    go_wp2_with fail
    go_loopw [7] (fun u wr => ∃ (D : Nat), D ≤ nd ∧ u = .int .i64 D ∧ Row wr w.heap.size (csL x l) 39 ∧ Below w.heap.size w wr) (fun u _ => nd - (intOf u).toNat)
    case atStart => exact ⟨0, by omega, rfl, HR1.out, HB1.out⟩
    case round =>
      obtain ⟨D, hD, rfl, hr, hb⟩ := hrel
      have HRR : Hid (Row wr w.heap.size (csL x l) 39) := hr
      have HBB : Hid _ := hb
      have y1 : wr.cell? ⟨w.heap.size, 1, none⟩ = some (.int .i64 nd) := by rw [HED.out]; exact hr.cell 1
      have lr := hr.lt
      clear hr hb
      by_cases hlt : D < nd
      · go_wp2_with fail
        go_loopw [8] (fun u wx => ∃ (K : Nat), K ≤ nc ∧ u = .int .i64 K ∧ Row wx w.heap.size (csL x l) 39 ∧ Below w.heap.size w wx) (fun u _ => nc - (intOf u).toNat)
        case atStart => exact ⟨0, by omega, rfl, HRR.out, HBB.out⟩
        case round =>
          obtain ⟨K, hK, rfl, hr, hb⟩ := hrel
          have y0 : wr.cell? ⟨w.heap.size, 0, none⟩ = some (.int .i64 nc) := by rw [HEC.out]; exact hr.cell 0
          have lr2 := hr.lt
          by_cases hltK : K < nc
          · have hSw := kswift_any x l K D q wr (HCA.out.below hb (Nat.le_refl _)) HZ.out (by rw [HNC.out]; exact hltK) (by rw [← HED.out]; omega) (by omega)
            have hrow := hr
            have HRX : Hid (Row wr w.heap.size (csL x l) 39) := hr
            have HBX : Hid _ := hb
            clear hr hb
            go_wp2_with (refine wpList_load_row (by rfl) 39 (.tmp 2) (by rfl) w.heap.size (by rfl) 39 (csL x l).toArray (0, 0) _ hrow Try.underlying39 (by rfl) (size_case x l) ?_)
            refine hSw.mono ?_; rintro e w3 ⟨rfl, hb3⟩
            have HR3 : Hid (Row w3 w.heap.size (csL x l) 39) := Row.below HRX.out hb3 lr2
            have HB3 : Hid (Below w.heap.size w w3) := below_step HBX.out hb3 rfl
            clear hSw hrow hb3 y0
            go_wp2_with fail
            go_roundw
            case rel => exact ⟨K + 1, by omega, by go_num, HR3.out, HB3.out⟩
            case measure => simp [intOf]; omega
          · have HR3 : Hid (Row wr w.heap.size (csL x l) 39) := hr
            have HB3 : Hid _ := hb
            clear hr hb
            go_wp2_with fail
            go_roundw
            case rel => exact ⟨D + 1, by omega, by go_num, HR3.out, HB3.out⟩
            case measure => simp [intOf]; omega
      · go_wp2
        go_ret
        exact ⟨rfl, HBB.out⟩
  · have hMc := kmachine_bad x l _ h0 hz
    clear hz hb0 h0 h hk0 hk1
    go_enter Try.func6, Try.ntmps6
    go_wp2_with (refine wpList_load_row (by rfl) 39 (.tmp 2) (by rfl) w.heap.size (by rfl) 39 (csL x l).toArray (0, 0) _ hR0 Try.underlying39 (by rfl) (size_case x l) ?_)
    refine hMc.mono ?_; rintro e w1 ⟨rfl, hb1⟩
    have HB1 : Hid _ := below_step HB0.out hb1 rfl
    clear hMc hR0 hb1
    go_wp2
    go_ret
    exact ⟨rfl, HB1.out⟩
end Go.Proofs.Ytcmcfafhllpojaa
