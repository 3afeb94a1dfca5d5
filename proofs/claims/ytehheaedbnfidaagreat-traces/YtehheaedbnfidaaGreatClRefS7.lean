/-
  One domain's play: ways, prog.
-/
import Derived.Test.YtehheaedbnfidaaGreatClRefS5
namespace Go.Proofs.YtehheaedbnfidaaGreat
open Go.RowKit

set_option maxRecDepth 100000 in
set_option maxHeartbeats 1600000 in
theorem rsways_any (X : SLoc) (c : Cf) (sl : Sl) (L : RLoc) (T : Int) (w : World) (h : SoR w X c sl L T) (hw : Ints w sl.wa sl.wl sl.wc c.ways) :
    Calls Tryz.prog 89 #[.pointer (some ⟨X.gs, 0, none⟩)] w fun e w' => e = .returned (.int .i64 (c.ways.count (X.d : Int) : Nat)) ∧ Below w.heap.size w w' := by
  have c0 : w.cell? ⟨X.gs, 0, none⟩ = some (.pointer (some ⟨X.gr, 0, none⟩)) := by rw [h.row.cell]; rfl
  have c1 : w.cell? ⟨X.gs, 1, none⟩ = some (.int .i64 X.d) := by rw [h.row.cell]; rfl
  have m7 : w.cell? ⟨X.gr, 7, none⟩ = some (.slice sl.wa sl.wl sl.wc) := by rw [h.mrow.cell]; rfl
  go_enter Tryz.func89, Tryz.ntmps89
  go_wp2_with fail
  go_quiet ((go_at_call 78; exact Calls.quiet_of_same (rcount_any _ _ _ c.ways _ _ (hw.drewN _))))
  go_wp2
  go_ret
  exact ⟨rfl, below_drewN (Below.refl _ _) _⟩

set_option maxRecDepth 100000 in
set_option maxHeartbeats 1600000 in
theorem rprog_any (X : SLoc) (L : RLoc) (M : RDat) (k : Nat) (w : World) (h : Row w X.gs (soloL X) 126) (hM : RefM w L M) (hg : X.gr = L.gr) (hd : X.d < L.nd) (hk : (k : Int) < M.c.cores) :
    Calls Tryz.prog 124 #[.pointer (some ⟨X.gs, 0, none⟩), .int .i64 k] w fun e w' => (∃ v, L.PL[X.d * M.c.cores.toNat + k]? = some v ∧ e = .returned v) ∧ Below w.heap.size w w' := by
  have c0 : w.cell? ⟨X.gs, 0, none⟩ = some (.pointer (some ⟨L.gr, 0, none⟩)) := by rw [h.cell, ← hg]; rfl
  have c1 : w.cell? ⟨X.gs, 1, none⟩ = some (.int .i64 X.d) := by rw [h.cell]; rfl
  have m0 : w.cell? ⟨L.gr, 0, none⟩ = some (.int .i64 M.c.cores) := by rw [hM.row.cell]; rfl
  have m13 : w.cell? ⟨L.gr, 13, none⟩ = some (.slice (some ⟨L.gp, 0, none⟩) L.np L.np) := by rw [hM.row.cell]; rfl
  have R := right_of hM.right
  have hnp := hM.np
  have hnd := hM.nd
  have k1 := R.c1
  have k2 := R.c2
  have k3 := R.d1
  have k4 := R.d2
  obtain ⟨n, hn⟩ := Int.eq_ofNat_of_zero_le (show 0 ≤ M.c.cores by omega)
  have hn' : M.c.cores.toNat = n := by omega
  rw [hn']
  rw [hn] at m0 hnp hk k1 k2
  have hnp2 : L.np = L.nd * n := by
    have : (L.np : Int) = ((L.nd * n : Nat) : Int) := by rw [hnp, Int.natCast_mul, hnd]
    omega
  have hlt : X.d * n + k < L.np := by
    have : (X.d + 1) * n ≤ L.nd * n := Nat.mul_le_mul_right _ hd
    rw [Nat.succ_mul] at this
    omega
  have hd4 : X.d ≤ 4 := by omega
  have hdn : X.d * n ≤ 4 * 3 := Nat.mul_le_mul hd4 (by omega)
  have e1 : (X.d : Int) * (n : Int) + (k : Int) = ((X.d * n + k : Nat) : Int) := by rw [← Int.natCast_mul]; omega
  have b1 : (X.d : Int) * (n : Int) ≤ 12 := by rw [← Int.natCast_mul]; omega
  have b0 : 0 ≤ (X.d : Int) * (n : Int) := by rw [← Int.natCast_mul]; omega
  have hnpb : L.np ≤ 12 := by
    have : L.nd * n ≤ 4 * 3 := Nat.mul_le_mul (by omega) (by omega)
    omega
  obtain ⟨v, hv⟩ : ∃ v, L.PL[X.d * n + k]? = some v := ⟨_, List.getElem?_eq_getElem (by rw [hM.plen]; exact hlt)⟩
  have p1 : w.cell? ⟨L.gp, X.d * n + k, none⟩ = some v := by rw [hM.prow.cell, hv]
  have hw1 : IntKind.i64.wrap ((X.d : Int) * (n : Int)) = (X.d : Int) * (n : Int) := by rw [IntKind.wrap_i64]; omega
  have hw2 : IntKind.i64.wrap ((X.d : Int) * (n : Int) + (k : Int)) = ((X.d * n + k : Nat) : Int) := by rw [IntKind.wrap_i64, e1]; omega
  have HV : Hid _ := hv
  have HN : Hid _ := hn
  clear hv hn hn' hnp hnd hnp2 e1
  go_enter Tryz.func124, Tryz.ntmps124
  go_wp2_with fail
  go_quiet (fail)
  go_wp2
  go_ret
  exact ⟨⟨v, HV.out, rfl⟩, below_drewN (Below.refl _ _) _⟩

set_option maxRecDepth 100000 in
set_option maxHeartbeats 1600000 in
theorem rfault_any (c : Cf) (s : Sl) (o : OpT) (w : World) (p0 : 0 ≤ c.priv) (p1 : c.priv ≤ 64) (s0 : 0 ≤ c.shared) (s1 : c.shared ≤ 32) :
    Calls Tryz.prog 131 #[cfgV c s, .agg #[.int .i64 o.1, .int .i64 o.2.1, .int .i64 o.2.2]] w fun e w' => e = .returned (.int .i64 (faultF c o)) ∧ Below w.heap.size w w' := by
  obtain ⟨kd, ad, vl⟩ := o
  dsimp only
  have HB : Hid (∀ o o', Below w.heap.size w ((w.alloc o).alloc o')) := fun o o' => ((Below.refl _ _).alloc (Nat.le_refl _) o).alloc (by simp) o'
  by_cases a1 : ad < 0
  · have HZ : Hid (faultF c (kd, ad, vl) = 1) := by unfold Hid faultF; rw [if_pos (Or.inl a1)]
    go_enter Tryz.func131, Tryz.ntmps131
    go_wp2
    go_ret
    exact ⟨ret_int HZ.out.symm, HB.out _ _⟩
  by_cases a2 : c.priv + c.shared ≤ ad
  · have HZ : Hid (faultF c (kd, ad, vl) = 1) := by unfold Hid faultF; rw [if_pos (Or.inr a2)]
    go_enter Tryz.func131, Tryz.ntmps131
    go_wp2
    go_ret
    exact ⟨ret_int HZ.out.symm, HB.out _ _⟩
  by_cases a3 : kd = 1
  · subst a3
    by_cases a4 : c.priv ≤ ad
    · have HZ : Hid (faultF c (1, ad, vl) = 2) := by unfold Hid faultF; rw [if_neg (by simp; omega), if_pos ⟨rfl, a4⟩]
      go_enter Tryz.func131, Tryz.ntmps131
      go_wp2
      go_ret
      exact ⟨ret_int HZ.out.symm, HB.out _ _⟩
    · have HZ : Hid (faultF c (1, ad, vl) = 0) := by unfold Hid faultF; rw [if_neg (by simp; omega), if_neg (by simp; omega)]
      go_enter Tryz.func131, Tryz.ntmps131
      go_wp2
      go_ret
      exact ⟨ret_int HZ.out.symm, HB.out _ _⟩
  · have HZ : Hid (faultF c (kd, ad, vl) = 0) := by unfold Hid faultF; rw [if_neg (by simp; omega), if_neg (by simp; omega)]
    have a3' : (kd == 1) = false := by simpa using a3
    clear a3
    go_enter Tryz.func131, Tryz.ntmps131
    go_wp2
    go_ret
    exact ⟨ret_int HZ.out.symm, HB.out _ _⟩
end Go.Proofs.YtehheaedbnfidaaGreat
