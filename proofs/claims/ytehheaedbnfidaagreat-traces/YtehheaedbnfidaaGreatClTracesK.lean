/-
  The walk of wallslaw's Traces.
-/
import Derived.Test.YtehheaedbnfidaaGreatClOutI
namespace Go.Proofs.YtehheaedbnfidaaGreat
open Go.RowKit

set_option maxRecDepth 100000 in
set_option maxHeartbeats 1600000 in
theorem traces_any (w : World) (ca : Option Addr) (cl cc : Nat) (cfs : Nat → Cf) (sa : Option Addr) (sl sc : Nat) (sts : Nat → St) (h1 : CsAt w ca cl cc cfs) (h2 : ScAt w sa sl sc sts) :
    Calls Tryz.prog 3 #[.slice ca cl cc, .slice sa sl sc] w fun x w' => x = .returned (.bool true) ∧ Below w.heap.size w w' := by
  have ba : Below w.heap.size w (w.alloc (.cells #[.int .i64 11, .int .i64 12, .int .i64 13, .int .i64 14, .int .i64 15, .int .i64 17] 3)) := (Below.refl _ _).alloc (Nat.le_refl _) _
  have r1 : Row (w.alloc (.cells #[.int .i64 11, .int .i64 12, .int .i64 13, .int .i64 14, .int .i64 15, .int .i64 17] 3)) w.heap.size [.int .i64 11, .int .i64 12, .int .i64 13, .int .i64 14, .int .i64 15, .int .i64 17] 3 := heap_alloc_new w _
  have q1 : (w.alloc (.cells #[.int .i64 11, .int .i64 12, .int .i64 13, .int .i64 14, .int .i64 15, .int .i64 17] 3)).heap.size = w.heap.size + 1 := by simp
  go_enter Tryz.func3, Tryz.ntmps3
  go_wp2_with fail
  generalize w.alloc (.cells #[.int .i64 11, .int .i64 12, .int .i64 13, .int .i64 14, .int .i64 15, .int .i64 17] 3) = V at *
  have bb : Below w.heap.size w (V.alloc (.cells #[.int .i64 17] 3)) := ba.alloc (by omega) _
  have r2 : Row (V.alloc (.cells #[.int .i64 17] 3)) (w.heap.size + 1) [.int .i64 17] 3 := by rw [← q1]; exact heap_alloc_new V _
  have r3 : Row (V.alloc (.cells #[.int .i64 17] 3)) w.heap.size [.int .i64 11, .int .i64 12, .int .i64 13, .int .i64 14, .int .i64 15, .int .i64 17] 3 := Row.alloc r1 _
  generalize V.alloc (.cells #[.int .i64 17] 3) = W at *
  clear r1 ba q1
  have hcs := h1.below bb (Nat.le_refl _)
  have hsc := h2.below bb (Nat.le_refl _)
  have hz := hsc.hmax
  have hzl := hsc.hle
  refine (playsZ_any W ca cl cc sa sl sc sts _ 6 6 [11, 12, 13, 14, 15, 17] _ 1 1 [17] hsc (ints_litY (A := [11, 12, 13, 14, 15, 17]) r3 (by decide)) (ints_litY (A := [17]) r2 (by decide)) (IY W ca cl cc) (IY.start W ca cl cc (fun _ => locXY) (fun _ => mkM (fun _ _ => []) (fun _ _ => 0) (fun _ => 0)) (fun _ => locLY) (fun _ => datLY)) (fun Z i wr h => h.bel) (fun Z i wr h => h.lt) (fun Z i wr w' h b => h.below b) (fun Z i wr h => h.succ) ?_ (fun Z i wr hi h => h.looks (by omega))).mono ?_
  · intro Z i wr hi hk hI
    obtain ⟨_, _, _, _, hr⟩ := hsc.hat i hi
    by_cases h5 : (sts i).k < 5
    · exact hI.own (sts i) h5 (by omega)
    · have e : (sts i).k = 11 ∨ (sts i).k = 12 ∨ (sts i).k = 13 ∨ (sts i).k = 14 ∨ (sts i).k = 15 ∨ (sts i).k = 17 := by
        rcases hk with hk | hk
        · exact absurd hk h5
        · simpa using hk
      rcases e with e | e | e | e | e | e
      · exact hI.made hcs (sts i) hr e (by omega)
      · exact hI.given (sts i) hr (by omega) (by omega) (by omega)
      · exact hI.given (sts i) hr (by omega) (by omega) (by omega)
      · exact hI.given (sts i) hr (by omega) (by omega) (by omega)
      · exact hI.given (sts i) hr (by omega) (by omega) (by omega)
      · exact hI.trace (sts i) hr e (by omega)
  · rintro x w' ⟨rfl, b⟩
    go_wp2
    go_ret
    exact ⟨rfl, below_step bb b rfl⟩
end Go.Proofs.YtehheaedbnfidaaGreat
