/-
  The walk of wallslaw's plan: Check.
-/
import Derived.Test.YtcmcfafhllpojaaGreatLent9
import Derived.Test.YtcmcfafhllpojaaGreatConf6
import Derived.Test.YtcmcfafhllpojaaGreatRef4
import Derived.Test.YtcmcfafhllpojaaGreatOwner
namespace Go.Proofs.YtcmcfafhllpojaaGreat
open Go.RowKit
attribute [local go_sem] Tryz.nilInts Tryz.nilGrid

set_option maxRecDepth 100000 in
set_option maxHeartbeats 2000000 in
theorem plan_check (c : Cf) (s : Sl) (o : St) (w : World) (h : CfgAt w c s) (hc : CfR c) (hk : o.k = 5) :
    Calls Tryz.prog 46 #[cfgV c s, opV o] w fun e w' => e = .returned (.bool true) ∧ Below w.heap.size w w' := by
  obtain ⟨k, a, b, cc, d⟩ := o
  simp only at hk
  subst hk
  have bW : Below w.heap.size w ((w.alloc (.cells (cfgA c s) 29)).alloc (.cells (opA ⟨5, a, b, cc, d⟩) 61)) := ((Below.refl _ _).alloc (Nat.le_refl _) _).alloc (by simp) _
  have rC : Row ((w.alloc (.cells (cfgA c s) 29)).alloc (.cells (opA ⟨5, a, b, cc, d⟩) 61)) w.heap.size (cfgL c s) 29 := by
    have : Row (w.alloc (.cells (cfgA c s) 29)) w.heap.size (cfgL c s) 29 := heap_alloc_new w _
    exact this.alloc _
  have rO : Row ((w.alloc (.cells (cfgA c s) 29)).alloc (.cells (opA ⟨5, a, b, cc, d⟩) 61)) (w.heap.size + 1) [.int .i64 5, .int .i64 a, .int .i64 b, .int .i64 cc, .int .i64 d] 61 := by
    have := heap_alloc_new (w.alloc (.cells (cfgA c s) 29)) (.cells (opA ⟨5, a, b, cc, d⟩) 61)
    rw [World.size_alloc] at this
    exact this
  have hW := h.below bW (Nat.le_refl _)
  go_enter Tryz.func46, Tryz.ntmps46
  go_wp2_with fail
  have sW : ((w.alloc (.cells (cfgA c s) 29)).alloc (.cells (opA ⟨5, a, b, cc, d⟩) 61)).heap.size = w.heap.size + 2 := by simp
  generalize (w.alloc (.cells (cfgA c s) 29)).alloc (.cells (opA ⟨5, a, b, cc, d⟩) 61) = W at *
  have SW : Hid _ := sW
  clear sW
  refine (lent_any c s W hW hc).mono ?_
  rintro e w1 ⟨s1, ma, ml, mc, rfl, b1, l1⟩
  have q1 := row_q (rC.below b1 rC.lt)
  have q2 := row_q (rO.below b1 rO.lt)
  have z2 : w.heap.size + 1 < w1.heap.size := by have := b1.size; have := SW.out; omega
  have z1 : w.heap.size < w1.heap.size := by omega
  have B1 : Hid _ := b1
  have L1 : Hid _ := l1
  clear b1 l1
  go_wp2_with fail
  have bX : Below w1.heap.size w1 (w1.alloc (.cells (cfgA c s1) 29)) := (Below.refl _ _).alloc (Nat.le_refl _) _
  have lX := LentC.same L1.out bX
  have rC2 := (rC.below B1.out rC.lt).alloc (.cells (cfgA c s1) 29)
  have rL2 : Row (w1.alloc (.cells (cfgA c s1) 29)) w1.heap.size (cfgL c s1) 29 := heap_alloc_new w1 _
  have bWX := below_step B1.out bX rfl
  clear q1 q2 bX
  generalize w1.alloc (.cells (cfgA c s1) 29) = w2 at *
  refine (Check_any c s1 w2 (lX.reads hW hc)).mono ?_
  rintro e w3 ⟨rfl, b3⟩
  have rC3 := rC2.below b3 rC2.lt
  have rL3 := rL2.below b3 rL2.lt
  have l3 := lX.same b3
  have bW3 := below_step bWX b3 rfl
  have q1 := row_q rC3
  have q2 := row_q rL3
  clear b3 rC2 rL2 lX bWX
  go_wp2_with fail
  refine (rcheck_any c s w3 (hW.below bW3 (Nat.le_refl _))).mono ?_
  rintro e w4 ⟨rfl, b4⟩
  have rC4 := rC3.below b4 rC3.lt
  have rL4 := rL3.below b4 rL3.lt
  have l4 := l3.same b4
  have bW4 := below_step bW3 b4 rfl
  clear q1 q2
  have q1 := row_q rC4
  have q2 := row_q rL4
  clear b4 rC3 rL3 l3 bW3
  have he : (chk c == chk c) = true := by simp
  go_wp2_with fail
  refine (whole_any W w4 c s s1 ma ml mc hW hc bW4 l4).mono ?_
  rintro e w5 ⟨rfl, b5⟩
  clear q1 q2
  go_wp2
  go_ret
  exact ⟨rfl, bW.trans ((bW4.trans b5).mono bW.size)⟩
end Go.Proofs.YtcmcfafhllpojaaGreat
