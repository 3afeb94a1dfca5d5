/-
  The walk of wallslaw's step: a call of Victim.
-/
import Derived.Test.YtcmcfafhllpojaaGreatRefV2
import Derived.Test.YtcmcfafhllpojaaGreatChecks
import Derived.Test.YtcmcfafhllpojaaGreatVictimC
namespace Go.Proofs.YtcmcfafhllpojaaGreat
open Go.RowKit

set_option maxRecDepth 100000 in
set_option maxHeartbeats 1600000 in
theorem step_victim (gw base : Nat) (o : Own) (m e p b : Value) (ts : List Int) (os : List (Int × Int × Int)) (st : St) (w : World) (h : WSt w gw base o m e p b ts os) (hr : ts.length * 8 ≤ 140737488351232)
    (hk : st.k = 10) (hv : VictimC) :
    Calls Tryz.prog 23 #[.pointer (some ⟨gw, 0, none⟩), opV st] w fun x w' => x = .returned (.bool true) ∧ Below w.heap.size w w' := by
  obtain ⟨k, a, bb, cc, dd⟩ := st
  simp only at hk
  subst hk
  have bW : Below w.heap.size w (w.alloc (.cells (opA ⟨10, a, bb, cc, dd⟩) 61)) := (Below.refl _ _).alloc (Nat.le_refl _) _
  have rO : Row (w.alloc (.cells (opA ⟨10, a, bb, cc, dd⟩) 61)) w.heap.size [.int .i64 10, .int .i64 a, .int .i64 bb, .int .i64 cc, .int .i64 dd] 61 := heap_alloc_new w _
  have hW := h.below bW rfl
  go_enter Tryz.func23, Tryz.ntmps23
  go_wp2_with fail
  refine (owner_other gw ⟨10, a, bb, cc, dd⟩ _ (by simp only []; omega)).mono ?_
  rintro x w1 ⟨rfl, b1⟩
  have h1 := hW.below b1 rfl
  have q1 := row_q (rO.below b1 rO.lt)
  have BW : Hid _ := below_step bW b1 rfl
  clear b1 bW hW rO
  go_wp2_with fail
  refine (chosen_any gw base o m e p b ts os a _ h1 hr (fun sa len cap xs w hi => hv a sa len cap xs w hi)).mono ?_
  rintro x w2 ⟨rfl, b2⟩
  have B2 : Hid _ := b2
  clear b2 q1
  go_wp2
  go_ret
  exact ⟨rfl, below_step BW.out B2.out rfl⟩

theorem Inv.victim {W : World} {ca : Option Addr} {cl cc : Nat} {k : Nat} {wr : World} (h : Inv W ca cl cc k wr) (st : St) (hk : st.k = 10) (hz : k * 40 ≤ 140737488351232) (hv : VictimC) :
    Calls Tryz.prog 23 #[.pointer (some ⟨W.heap.size, 0, none⟩), opV st] wr fun x w' => x = .returned (.bool true) ∧ Inv W ca cl cc (k + 1) w' ∧ KeepO wr w' := by
  have hI := h
  obtain ⟨h0, o, ts, os, h1, h2, h3, h4, h5, h6⟩ := h
  refine (step_victim W.heap.size W.heap.size o _ _ _ _ ts os st wr h4 (by omega) hk hv).mono ?_
  rintro x w' ⟨rfl, b⟩
  exact ⟨rfl, (hI.below b).succ, KeepO.below b rfl⟩
end Go.Proofs.YtcmcfafhllpojaaGreat
