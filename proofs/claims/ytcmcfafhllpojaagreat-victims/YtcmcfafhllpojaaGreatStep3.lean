/-
  The walk of wallslaw's step: what the caller does alone, and what is no step.
-/
import Derived.Test.YtcmcfafhllpojaaGreatStep2
import Derived.Test.YtcmcfafhllpojaaGreatOwner3
namespace Go.Proofs.YtcmcfafhllpojaaGreat
open Go.RowKit

set_option maxRecDepth 100000 in
set_option maxHeartbeats 800000 in
theorem step_own (gw : Nat) (st : St) (w : World) (R : World → Prop)
    (ho : Calls Tryz.prog 42 #[.pointer (some ⟨gw, 0, none⟩), opV st] (w.alloc (.cells (opA st) 61)) fun x w' => x = .returned (.bool true) ∧ R w') :
    Calls Tryz.prog 23 #[.pointer (some ⟨gw, 0, none⟩), opV st] w fun x w' => x = .returned (.bool true) ∧ R w' := by
  have HO : Hid _ := ho
  clear ho
  go_enter Tryz.func23, Tryz.ntmps23
  go_wp2_with fail
  refine Calls.mono HO.out ?_
  rintro x w1 ⟨rfl, r⟩
  have HR : Hid _ := r
  clear r
  go_wp2
  go_ret
  exact ⟨rfl, HR.out⟩

set_option maxRecDepth 100000 in
set_option maxHeartbeats 800000 in
theorem step_out (gw : Nat) (st : St) (w : World) (hk : st.k < 1 ∨ 20 < st.k) :
    Calls Tryz.prog 23 #[.pointer (some ⟨gw, 0, none⟩), opV st] w fun x w' => x = .returned (.bool true) ∧ Below w.heap.size w w' := by
  have bW : Below w.heap.size w (w.alloc (.cells (opA st) 61)) := (Below.refl _ _).alloc (Nat.le_refl _) _
  have rO : Row (w.alloc (.cells (opA st) 61)) w.heap.size [.int .i64 st.k, .int .i64 st.a, .int .i64 st.b, .int .i64 st.c, .int .i64 st.d] 61 := heap_alloc_new w _
  rcases hk with hk | hk
  · have hd : decide (st.k < 5) = true := by simp; omega
    have hk5 : st.k < 5 := by omega
    go_enter Tryz.func23, Tryz.ntmps23
    go_wp2_with fail
    refine (owner_other gw st _ (by omega)).mono ?_
    rintro x w1 ⟨rfl, b1⟩
    have q1 := row_q (rO.below b1 rO.lt)
    have B1 : Hid _ := b1
    clear b1
    go_wp2
    go_ret
    exact ⟨rfl, below_step bW B1.out rfl⟩
  · have hd : decide (st.k < 5) = false := by simp; omega
    have hd2 : decide (20 < st.k) = true := by simp; omega
    go_enter Tryz.func23, Tryz.ntmps23
    go_wp2_with fail
    refine (owner_other gw st _ (by omega)).mono ?_
    rintro x w1 ⟨rfl, b1⟩
    have q1 := row_q (rO.below b1 rO.lt)
    have B1 : Hid _ := b1
    clear b1
    go_wp2
    go_ret
    exact ⟨rfl, below_step bW B1.out rfl⟩

set_option maxRecDepth 100000 in
set_option maxHeartbeats 1600000 in
theorem step_nocs (gw base : Nat) (o : Own) (m e p b : Value) (ts : List Int) (os : List (Int × Int × Int)) (st : St) (w : World) (h : WSt w gw base o m e p b ts os)
    (hk1 : 5 ≤ st.k) (hk2 : st.k ≤ 11) (hk3 : st.k ≠ 10) (hpos : o.cl = 0) :
    Calls Tryz.prog 23 #[.pointer (some ⟨gw, 0, none⟩), opV st] w fun x w' => x = .returned (.bool true) ∧ Below w.heap.size w w' := by
  obtain ⟨k, a, bb, cc, dd⟩ := st
  obtain ⟨ca, cl, ccap, ta, tl, tc, oa, ol, oc⟩ := o
  simp only at hk1 hk2 hk3 hpos
  subst hpos
  have bW : Below w.heap.size w (w.alloc (.cells (opA ⟨k, a, bb, cc, dd⟩) 61)) := (Below.refl _ _).alloc (Nat.le_refl _) _
  have rO : Row (w.alloc (.cells (opA ⟨k, a, bb, cc, dd⟩) 61)) w.heap.size [.int .i64 k, .int .i64 a, .int .i64 bb, .int .i64 cc, .int .i64 dd] 61 := heap_alloc_new w _
  have hW := h.below bW rfl
  have n10 : (k == 10) = false := by simpa using hk3
  have n5 : decide (k < 5) = false := by simp; omega
  have n20 : decide (20 < k) = false := by simp; omega
  clear hk3
  go_enter Tryz.func23, Tryz.ntmps23
  go_wp2_with fail
  refine (owner_other gw ⟨k, a, bb, cc, dd⟩ _ (by simp only []; omega)).mono ?_
  rintro x w1 ⟨rfl, b1⟩
  have h1 := hW.below b1 rfl
  have q1 := row_q (rO.below b1 rO.lt)
  have bW1 := below_step bW b1 rfl
  have c0 : w1.cell? ⟨gw, 0, none⟩ = some (.slice ca 0 ccap) := by rw [h1.row.cell]; rfl
  have BW : Hid _ := bW1
  clear b1 bW1 bW hW rO
  go_wp2
  go_ret
  exact ⟨rfl, BW.out⟩
end Go.Proofs.YtcmcfafhllpojaaGreat
