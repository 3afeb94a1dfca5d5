/-
  The walk of wallslaw's Victims, over a contract of Victim.
-/
import Derived.Test.YtcmcfafhllpojaaGreatChecks
import Derived.Test.YtcmcfafhllpojaaGreatStepV
namespace Go.Proofs.YtcmcfafhllpojaaGreat
open Go.RowKit

set_option maxRecDepth 100000 in
set_option maxHeartbeats 800000 in
theorem victims_any (w : World) (ca : Option Addr) (cl cc : Nat) (cfs : Nat → Cf) (sa : Option Addr) (sl sc : Nat) (sts : Nat → St) (h1 : CsAt w ca cl cc cfs) (h2 : ScAt w sa sl sc sts) (hV : VictimC) :
    Calls Tryz.prog 6 #[.slice ca cl cc, .slice sa sl sc] w fun x w' => x = .returned (.bool true) ∧ Below w.heap.size w w' := by
  have b0 : Below w.heap.size w ((w.alloc (.cells #[.int .i64 10] 3)).alloc (.cells #[.int .i64 10] 3)) := ((Below.refl _ _).alloc (Nat.le_refl _) _).alloc (by simp) _
  have r1 : Row ((w.alloc (.cells #[.int .i64 10] 3)).alloc (.cells #[.int .i64 10] 3)) w.heap.size [.int .i64 10] 3 := by
    have : Row (w.alloc (.cells #[.int .i64 10] 3)) w.heap.size [.int .i64 10] 3 := heap_alloc_new w _
    exact this.alloc _
  have r2 : Row ((w.alloc (.cells #[.int .i64 10] 3)).alloc (.cells #[.int .i64 10] 3)) (w.heap.size + 1) [.int .i64 10] 3 := by
    have := heap_alloc_new (w.alloc (.cells #[.int .i64 10] 3)) (.cells #[.int .i64 10] 3)
    rw [World.size_alloc] at this
    exact this
  go_enter Tryz.func6, Tryz.ntmps6
  go_wp2_with fail
  generalize (w.alloc (.cells #[.int .i64 10] 3)).alloc (.cells #[.int .i64 10] 3) = W at *
  have hcs := h1.below b0 (Nat.le_refl _)
  have hsc := h2.below b0 (Nat.le_refl _)
  refine (plays_any W ca cl cc sa sl sc sts _ 1 1 [10] _ 1 1 [10] hsc (ints_lit (A := [10]) r1 (by decide)) (ints_lit (A := [10]) r2 (by decide)) (Inv W ca cl cc) (Inv.start W ca cl cc) (fun i wr h => h.1) (fun i wr w' h b => h.below b) (fun i wr h => h.succ) ?_ (fun i wr h => h.looks)).mono ?_
  · intro i wr hi hk hI
    have hz := hsc.hmax
    have hzl := hsc.hle
    obtain ⟨_, _, _, _, hr⟩ := hsc.hat i hi
    by_cases h5 : (sts i).k < 5
    · exact hI.own (sts i) h5 (by omega)
    · have e : (sts i).k = 10 := by
        rcases hk with hk | hk
        · exact absurd hk h5
        · simpa using hk
      exact hI.victim (sts i) e (by omega) hV
  · rintro x w' ⟨rfl, b⟩
    go_wp2
    go_ret
    exact ⟨rfl, below_step b0 b rfl⟩
end Go.Proofs.YtcmcfafhllpojaaGreat
