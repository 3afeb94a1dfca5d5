/-
  One domain's play: a program, as it is read; the draw told.
-/
import Derived.Test.YtehheaedbnfidaaGreatClRefSE
namespace Go.Proofs.YtehheaedbnfidaaGreat
open Go.RowKit

set_option maxRecDepth 100000 in
set_option maxHeartbeats 1600000 in
theorem rprogD_any (X : SLoc) (L : RLoc) (M : RDat) (k : Nat) (v : Value) (w : World) (h : Row w X.gs (soloL X) 126) (hM : RefM w L M) (hg : X.gr = L.gr) (hd : X.d < L.nd) (hk : (k : Int) < M.c.cores) (hv : L.PL[X.d * M.c.cores.toNat + k]? = some v) :
    Calls Tryz.prog 124 #[.pointer (some ⟨X.gs, 0, none⟩), .int .i64 k] w fun e w' => e = .returned v ∧ w' = w.drew := by
  have c0 : w.cell? ⟨X.gs, 0, none⟩ = some (.pointer (some ⟨L.gr, 0, none⟩)) := by rw [h.cell, ← hg]; rfl
  have c1 : w.cell? ⟨X.gs, 1, none⟩ = some (.int .i64 X.d) := by rw [h.cell]; rfl
  have m0 : w.cell? ⟨L.gr, 0, none⟩ = some (.int .i64 M.c.cores) := by rw [hM.row.cell]; rfl
  have m13 : w.cell? ⟨L.gr, 13, none⟩ = some (.slice (some ⟨L.gp, 0, none⟩) L.np L.np) := by rw [hM.row.cell]; rfl
  have R := right_of hM.right
  have hnp := hM.np
  have hnd := hM.nd
  have k1 := R.c1
  have k2 := R.c2
  have k3 := R.d1
  have k4 := R.d2
  obtain ⟨n, hn⟩ := Int.eq_ofNat_of_zero_le (show 0 ≤ M.c.cores by omega)
  have hn' : M.c.cores.toNat = n := by omega
  rw [hn'] at hv
  rw [hn] at m0 hnp hk k1 k2
  have hnp2 : L.np = L.nd * n := by
    have : (L.np : Int) = ((L.nd * n : Nat) : Int) := by rw [hnp, Int.natCast_mul, hnd]
    omega
  have hlt : X.d * n + k < L.np := by
    have : (X.d + 1) * n ≤ L.nd * n := Nat.mul_le_mul_right _ hd
    rw [Nat.succ_mul] at this
    omega
  have hd4 : X.d ≤ 4 := by omega
  have hdn : X.d * n ≤ 4 * 3 := Nat.mul_le_mul hd4 (by omega)
  have e1 : (X.d : Int) * (n : Int) + (k : Int) = ((X.d * n + k : Nat) : Int) := by rw [← Int.natCast_mul]; omega
  have b1 : (X.d : Int) * (n : Int) ≤ 12 := by rw [← Int.natCast_mul]; omega
  have b0 : 0 ≤ (X.d : Int) * (n : Int) := by rw [← Int.natCast_mul]; omega
  have hnpb : L.np ≤ 12 := by
    have : L.nd * n ≤ 4 * 3 := Nat.mul_le_mul (by omega) (by omega)
    omega
  have p1 : w.cell? ⟨L.gp, X.d * n + k, none⟩ = some v := by rw [hM.prow.cell, hv]
  have hw1 : IntKind.i64.wrap ((X.d : Int) * (n : Int)) = (X.d : Int) * (n : Int) := by rw [IntKind.wrap_i64]; omega
  have hw2 : IntKind.i64.wrap ((X.d : Int) * (n : Int) + (k : Int)) = ((X.d * n + k : Nat) : Int) := by rw [IntKind.wrap_i64, e1]; omega
  have HV : Hid _ := hv
  have HN : Hid _ := hn
  clear hv hn hn' hnp hnd hnp2 e1
  go_enter Tryz.func124, Tryz.ntmps124
  go_wp2_with fail
  go_region
  all_goals go_wp2
  all_goals go_ret
  all_goals exact ⟨rfl, rfl⟩
end Go.Proofs.YtehheaedbnfidaaGreat
