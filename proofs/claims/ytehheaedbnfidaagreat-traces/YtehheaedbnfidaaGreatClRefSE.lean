/-
  One domain's play: a program, as it is read; soonest.
-/
import Derived.Test.YtehheaedbnfidaaGreatClRefSD
import Derived.Test.YtehheaedbnfidaaGreatClRefT3
namespace Go.Proofs.YtehheaedbnfidaaGreat
open Go.RowKit

/-- The place of a program. -/
theorem Ctx.prog {w0 w : World} {base : Nat} {X : SLoc} {L : RLoc} {M : RDat} {S : So} (h : Ctx w0 w base X L M S) {k : Nat} (hk : k < M.c.cores.toNat) : ∃ pa, L.PL[X.d * M.c.cores.toNat + k]? = some (.slice pa (progF M.toM X.d k).length (progF M.toM X.d k).length) ∧ (progF M.toM X.d k).length ≤ 64 ∧
    ∀ w', Below base w0 w' → ∀ i, i < (progF M.toM X.d k).length → ∃ b, pa = some ⟨b, 0, none⟩ ∧ w'.cell? ⟨b, i * 3, none⟩ = some (.int .i64 ((progF M.toM X.d k).getD i (0, 0, 0)).1) ∧ w'.cell? ⟨b, i * 3 + 1, none⟩ = some (.int .i64 ((progF M.toM X.d k).getD i (0, 0, 0)).2.1) ∧ w'.cell? ⟨b, i * 3 + 2, none⟩ = some (.int .i64 ((progF M.toM X.d k).getD i (0, 0, 0)).2.2) := by
  have R := right_of h.ok
  have hnp := h.ref.np
  have hnd := h.ref.nd
  have hd := h.d
  obtain ⟨n, hn⟩ := Int.eq_ofNat_of_zero_le (show 0 ≤ M.c.cores by have := R.c1; omega)
  have hn' : M.c.cores.toNat = n := by omega
  rw [hn'] at hk ⊢
  have hnp2 : L.np = L.nd * n := by
    have : (L.np : Int) = ((L.nd * n : Nat) : Int) := by rw [hnp, Int.natCast_mul, hnd, hn]
    omega
  have hlt : X.d * n + k < L.np := by
    have : (X.d + 1) * n ≤ L.nd * n := Nat.mul_le_mul_right _ hd
    rw [Nat.succ_mul] at this
    omega
  have hp : progF M.toM X.d k = M.pr (X.d * n + k) := by unfold progF RDat.toM; rw [hn']
  rw [hp]
  have hm := h.ref.pmax _ hlt
  rcases h.ref.pat _ hlt with ⟨h1, h2⟩ | ⟨h1, h2⟩
  · rw [h1]
    exact ⟨none, h2, by simp, fun w' _ i hi => by simp at hi⟩
  · refine ⟨some ⟨L.G (X.d * n + k), 0, none⟩, h1, hm, fun w' hw' i hi => ⟨L.G (X.d * n + k), rfl, ?_⟩⟩
    rcases (h.keep w' hw').1.pat _ hlt with ⟨h3, _⟩ | ⟨_, h4⟩
    · rw [h3] at hi; simp at hi
    · have fa := fun j hj => flat_at (fun p : OpT => [Value.int .i64 p.1, .int .i64 p.2.1, .int .i64 p.2.2]) 3 (fun _ => rfl) (M.pr (X.d * n + k)) i j hj
      have e : (M.pr (X.d * n + k))[i]? = some ((M.pr (X.d * n + k)).getD i (0, 0, 0)) := by
        rw [List.getElem?_eq_getElem hi, List.getD_eq_getElem?_getD, List.getElem?_eq_getElem hi]; rfl
      refine ⟨?_, ?_, ?_⟩
      · have := fa 0 (by omega)
        rw [e] at this
        rw [h4.cell]
        exact this
      · have := fa 1 (by omega)
        rw [e] at this
        rw [h4.cell]
        exact this
      · have := fa 2 (by omega)
        rw [e] at this
        rw [h4.cell]
        exact this

set_option maxRecDepth 100000 in
set_option maxHeartbeats 1600000 in
theorem rprogQ_any (X : SLoc) (L : RLoc) (M : RDat) (k : Nat) (v : Value) (w : World) (h : Row w X.gs (soloL X) 126) (hM : RefM w L M) (hg : X.gr = L.gr) (hd : X.d < L.nd) (hk : (k : Int) < M.c.cores) (hv : L.PL[X.d * M.c.cores.toNat + k]? = some v) :
    Calls Tryz.prog 124 #[.pointer (some ⟨X.gs, 0, none⟩), .int .i64 k] w fun e w' => e = .returned v ∧ ∃ m, w' = w.drewN m := by
  have c0 : w.cell? ⟨X.gs, 0, none⟩ = some (.pointer (some ⟨L.gr, 0, none⟩)) := by rw [h.cell, ← hg]; rfl
  have c1 : w.cell? ⟨X.gs, 1, none⟩ = some (.int .i64 X.d) := by rw [h.cell]; rfl
  have m0 : w.cell? ⟨L.gr, 0, none⟩ = some (.int .i64 M.c.cores) := by rw [hM.row.cell]; rfl
  have m13 : w.cell? ⟨L.gr, 13, none⟩ = some (.slice (some ⟨L.gp, 0, none⟩) L.np L.np) := by rw [hM.row.cell]; rfl
  have R := right_of hM.right
  have hnp := hM.np
  have hnd := hM.nd
  have k1 := R.c1
  have k2 := R.c2
  have k3 := R.d1
  have k4 := R.d2
  obtain ⟨n, hn⟩ := Int.eq_ofNat_of_zero_le (show 0 ≤ M.c.cores by omega)
  have hn' : M.c.cores.toNat = n := by omega
  rw [hn'] at hv
  rw [hn] at m0 hnp hk k1 k2
  have hnp2 : L.np = L.nd * n := by
    have : (L.np : Int) = ((L.nd * n : Nat) : Int) := by rw [hnp, Int.natCast_mul, hnd]
    omega
  have hlt : X.d * n + k < L.np := by
    have : (X.d + 1) * n ≤ L.nd * n := Nat.mul_le_mul_right _ hd
    rw [Nat.succ_mul] at this
    omega
  have hd4 : X.d ≤ 4 := by omega
  have hdn : X.d * n ≤ 4 * 3 := Nat.mul_le_mul hd4 (by omega)
  have e1 : (X.d : Int) * (n : Int) + (k : Int) = ((X.d * n + k : Nat) : Int) := by rw [← Int.natCast_mul]; omega
  have b1 : (X.d : Int) * (n : Int) ≤ 12 := by rw [← Int.natCast_mul]; omega
  have b0 : 0 ≤ (X.d : Int) * (n : Int) := by rw [← Int.natCast_mul]; omega
  have hnpb : L.np ≤ 12 := by
    have : L.nd * n ≤ 4 * 3 := Nat.mul_le_mul (by omega) (by omega)
    omega
  have p1 : w.cell? ⟨L.gp, X.d * n + k, none⟩ = some v := by rw [hM.prow.cell, hv]
  have hw1 : IntKind.i64.wrap ((X.d : Int) * (n : Int)) = (X.d : Int) * (n : Int) := by rw [IntKind.wrap_i64]; omega
  have hw2 : IntKind.i64.wrap ((X.d : Int) * (n : Int) + (k : Int)) = ((X.d * n + k : Nat) : Int) := by rw [IntKind.wrap_i64, e1]; omega
  have HV : Hid _ := hv
  have HN : Hid _ := hn
  clear hv hn hn' hnp hnd hnp2 e1
  go_enter Tryz.func124, Tryz.ntmps124
  go_wp2_with fail
  go_quiet (fail)
  go_wp2
  go_ret
  exact ⟨rfl, _, rfl⟩
end Go.Proofs.YtehheaedbnfidaaGreat
