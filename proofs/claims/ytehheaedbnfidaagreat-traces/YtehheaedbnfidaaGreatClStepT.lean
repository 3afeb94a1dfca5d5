/-
  The walk of wallslaw's step: Trace, Near, Far.
-/
import Derived.Test.YtehheaedbnfidaaGreatClStepM
namespace Go.Proofs.YtehheaedbnfidaaGreat
open Go.RowKit
attribute [local go_sem ↓] Go.wp_at_zero Go.wp_at_succ

set_option maxRecDepth 100000 in
set_option maxHeartbeats 3200000 in
theorem step_traced (gw base : Nat) (o : Own) (n mc g : Nat) (e p b : Value) (ts : List Int) (os : List (Int × Int × Int)) (st : St) (w : World) (h : WSt w gw base o (.slice (some ⟨g, 0, none⟩) n mc) e p b ts os) (hr : StR st) (hk : st.k = 17) (hpos : 0 < n) (hnm : n ≤ mc) (hmm : mc ≤ maxLen) (hg : g < w.heap.size)
    (px pl : Nat → Nat) (hat : ∀ j, j < n → w.cell? ⟨g, j * 2, none⟩ = some (.pointer (some ⟨px j, 0, none⟩)) ∧ w.cell? ⟨g, j * 2 + 1, none⟩ = some (.pointer (some ⟨pl j, 0, none⟩))) (R : World → Prop)
    (hgiven : ∀ (j : Nat) (w2 : World), j < n → Below w.heap.size w w2 → Calls Tryz.prog 16 #[.pointer (some ⟨gw, 0, none⟩), .agg #[.pointer (some ⟨px j, 0, none⟩), .pointer (some ⟨pl j, 0, none⟩)], .int .i64 st.b] w2 fun x w' => x = .returned (.bool true) ∧ R w') :
    Calls Tryz.prog 9 #[.pointer (some ⟨gw, 0, none⟩), opV st] w fun x w' => x = .returned (.bool true) ∧ R w' := by
  have HP : Hid _ := hgiven
  clear hgiven
  obtain ⟨k, a, bb, cc, dd⟩ := st
  simp only at hk
  subst hk
  have bW : Below w.heap.size w (w.alloc (.cells (opA ⟨17, a, bb, cc, dd⟩) 36)) := (Below.refl _ _).alloc (Nat.le_refl _) _
  have rO : Row (w.alloc (.cells (opA ⟨17, a, bb, cc, dd⟩) 36)) w.heap.size [.int .i64 17, .int .i64 a, .int .i64 bb, .int .i64 cc, .int .i64 dd] 36 := heap_alloc_new w _
  have hW := h.below bW rfl
  unfold maxLen at hmm
  go_enter Tryz.func9, Tryz.ntmps9
  go_wp2_with fail
  refine (owner_other gw ⟨17, a, bb, cc, dd⟩ _ (by simp only []; omega)).mono ?_
  rintro x w1 ⟨rfl, b1⟩
  have h1 := hW.below b1 rfl
  have rO1 := rO.below b1 rO.lt
  have bW1 := below_step bW b1 rfl
  have q1 : ∀ i, w1.cell? ⟨w.heap.size, i, none⟩ = (opA ⟨17, a, bb, cc, dd⟩)[i]? := fun i => by rw [rO1.cell]; simp
  have c3 : w1.cell? ⟨gw, 3, none⟩ = some (.slice (some ⟨g, 0, none⟩) n mc) := by rw [h1.row.cell]; rfl
  have ncl : ((n : Int) == 0) = false := by simp; exact Nat.pos_iff_ne_zero.1 hpos
  clear b1 bW hW rO
  have pb := pickZ_bd a n (by omega)
  obtain ⟨j, hj⟩ := Int.eq_ofNat_of_zero_le pb.1
  have hjl : j < n := by have := pb.2; omega
  have hpick : ∀ w : World, Calls Tryz.prog 13 #[.int .i64 a, .int .i64 n] w fun e w' => e = .returned (.int .i64 (j : Int)) ∧ w' = w := fun w => by
    have := pick_any a n w hr.a1 hr.a2 (by omega) (by omega)
    rw [hj] at this
    exact this
  have HK : Hid _ := hpick
  obtain ⟨e0', e1'⟩ := hat j hjl
  have e0 : w1.cell? ⟨g, j * 2, none⟩ = some (.pointer (some ⟨px j, 0, none⟩)) := (bW1.cell (p := ⟨g, j * 2, none⟩) hg).trans e0'
  have e1 : w1.cell? ⟨g, j * 2 + 1, none⟩ = some (.pointer (some ⟨pl j, 0, none⟩)) := (bW1.cell (p := ⟨g, j * 2 + 1, none⟩) hg).trans e1'
  have c1 : w1.cell? ⟨w.heap.size, 1, none⟩ = some (.int .i64 a) := q1 1
  have hj0 : (0 : Int) ≤ (j : Int) := by omega
  have hj1 : (j : Int) < (n : Int) := by omega
  have nw := h1.row.lt
  have ng : g < w1.heap.size := Nat.lt_of_lt_of_le hg bW1.size
  have HPJ := HP.out j
  have HPJ' : Hid _ := HPJ
  generalize px j = xj at *
  generalize pl j = lj at *
  clear hpick hj pb e0' e1' hat HPJ
  go_wp2_with fail
  go_region_held3 (fun w' => w'.cell? ⟨gw, 3, none⟩ = some (.slice (some ⟨g, 0, none⟩) n mc) ∧ w'.cell? ⟨w.heap.size, 1, none⟩ = some (.int .i64 a) ∧ w'.cell? ⟨g, j * 2, none⟩ = some (.pointer (some ⟨xj, 0, none⟩)) ∧ w'.cell? ⟨g, j * 2 + 1, none⟩ = some (.pointer (some ⟨lj, 0, none⟩))) (go_keep) (first | (go_at_call 13; refine (HK.out _).mono ?_; rintro e w' ⟨rfl, rfl⟩))
  all_goals
    have bX : Below w1.heap.size w1 (w1.alloc (.cells #[.pointer (some ⟨xj, 0, none⟩), .pointer (some ⟨lj, 0, none⟩)] 50)).drew := ((Below.refl _ _).alloc (Nat.le_refl _) _).drew
    have rP : Row (w1.alloc (.cells #[.pointer (some ⟨xj, 0, none⟩), .pointer (some ⟨lj, 0, none⟩)] 50)).drew w1.heap.size [.pointer (some ⟨xj, 0, none⟩), .pointer (some ⟨lj, 0, none⟩)] 50 := heap_alloc_new w1 _
    have rO2 := rO1.below bX rO1.lt
    have bW2 := below_step bW1 bX rfl
    clear e0 e1 c1 c3 q1 bX
    generalize (w1.alloc (.cells #[.pointer (some ⟨xj, 0, none⟩), .pointer (some ⟨lj, 0, none⟩)] 50)).drew = w2 at *
    have q1 := row_q rP
    have q2 := row_q rO2
    go_wp2_with fail
    refine (HPJ'.out w2 hjl bW2).mono ?_
    rintro x w3 ⟨rfl, r3⟩
    have HR3 : Hid _ := r3
    clear r3
    go_wp2
    go_ret
    exact ⟨rfl, HR3.out⟩

end Go.Proofs.YtehheaedbnfidaaGreat
