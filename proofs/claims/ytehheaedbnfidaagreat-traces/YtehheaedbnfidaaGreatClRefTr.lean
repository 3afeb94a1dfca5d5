/-
  The reference's Trace.
-/
import Derived.Test.YtehheaedbnfidaaGreatClRefP
namespace Go.Proofs.YtehheaedbnfidaaGreat
open Go.RowKit

set_option maxRecDepth 100000 in
set_option maxHeartbeats 1600000 in
theorem rTrace_good (L : RLoc) (M : RDat) (d : Nat) (w : World) (h : RefM w L M) (hc : CfgAt w M.c M.s) (hd : d < L.nd) :
    Calls Tryz.prog 44 #[.pointer (some ⟨L.gr, 0, none⟩), .int .i64 d] w fun e w' => ∃ X, e = .returned (.tuple #[.slice (SLoc.ea X) X.el X.ec, .int .i64 0]) ∧ X.d = d ∧ Ctx w w' w.heap.size X L M (So.upto M.toM d M.T.toNat) := by
  have hP := rplayed_any L M d w h hc hd
  have m1 : w.cell? ⟨L.gr, 1, none⟩ = some (.int .i64 M.c.domains) := by rw [h.row.cell]; rfl
  have hdd : (d : Int) < M.c.domains := by have := h.nd; omega
  have d0 : (0 : Int) ≤ (d : Int) := by omega
  clear h hc
  go_enter Tryz.func44, Tryz.ntmps44
  go_wp2_with fail
  refine hP.mono ?_
  rintro e w1 ⟨X, rfl, hX, hC⟩
  have c3 : w1.cell? ⟨X.gs, 3, none⟩ = some (.slice X.ea X.el X.ec) := by rw [hC.solo.row.cell]; rfl
  have HC : Hid _ := hC
  have HX : Hid _ := hX
  clear hC hX m1 hP
  go_wp2
  go_ret2
  exact ⟨X, rfl, HX.out, HC.out⟩

set_option maxRecDepth 100000 in
set_option maxHeartbeats 1600000 in
theorem rTrace_bad (L : RLoc) (M : RDat) (d : Int) (w : World) (h : RefM w L M) (hd : d < 0 ∨ M.c.domains ≤ d) :
    Calls Tryz.prog 44 #[.pointer (some ⟨L.gr, 0, none⟩), .int .i64 d] w fun e w' => e = .returned (.tuple #[.slice none 0 0, .int .i64 6]) ∧ w' = w := by
  have m1 : w.cell? ⟨L.gr, 1, none⟩ = some (.int .i64 M.c.domains) := by rw [h.row.cell]; rfl
  have cases : d < 0 ∨ (0 ≤ d ∧ M.c.domains ≤ d) := by omega
  clear h hd
  rcases cases with b1 | ⟨b1, b2⟩
  all_goals
    go_enter Tryz.func44, Tryz.ntmps44
    go_wp2
    go_ret2
    exact ⟨rfl, rfl⟩
end Go.Proofs.YtehheaedbnfidaaGreat
