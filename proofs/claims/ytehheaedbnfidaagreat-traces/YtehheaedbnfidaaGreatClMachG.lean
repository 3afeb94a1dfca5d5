/-
  The landed machine: endFault.
-/
import Derived.Test.YtehheaedbnfidaaGreatClPackL
import Derived.Test.YtehheaedbnfidaaGreatClMachD
namespace Go.Proofs.YtehheaedbnfidaaGreat
open Go.RowKit

set_option maxRecDepth 100000 in
set_option maxHeartbeats 6400000 in
theorem kendFault_any (N : Cn) (X : XLoc) (m : Mh) (k : Nat) (w : World) (h : MachM w N X m) (ok : MhOk N m) (hk : k < N.nc) (hb : (m.wk k).busy = true) :
    Calls Tryz.prog 156 #[.pointer (some ⟨X.g, 0, none⟩), .int .i64 k] w fun e w' => e = .returned (.tuple #[]) ∧ ∃ X', MachM w' N X' (m.endFault N k) ∧ Goes w w' X X' := by
  obtain ⟨n1, n2, n3, n4, n5, n6, n7, n8, n9, n10, n11, n12, n13, n14, n15⟩ := h.nums
  obtain ⟨d, hd, hdom, hdn⟩ := ok.bz k hk hb
  obtain ⟨o, ho⟩ := next_of_lt hdn
  have hNx := fun w' hw => knext_any N X m d k w' hw hd hk (ok.len d k) (Nat.le_trans (ok.dn d k) (ok.len d k))
  rw [ho] at hNx
  have c19 : w.cell? ⟨X.g, 19, none⟩ = some (.slice (some ⟨X.ck, 0, none⟩) N.nc N.nc) := by rw [h.row.cell]; rfl
  obtain ⟨_, k1, _⟩ := wk_at h.wks hk
  rw [hdom] at k1
  have HE : Hid (m.endFault N k = if faultF N.c o ≠ 0 ∧ (m.wk k).issue + 2 ≤ m.now then m.finish k 0 (faultF N.c o) else m) := by
    unfold Hid Mh.endFault
    rw [hdom, Int.toNat_natCast, ho]
  obtain ⟨is0, is1⟩ := ok.is k hk
  have hno1 := h.now1
  have HM : Hid _ := h
  have HTL : Hid ((m.tr d).length ≤ 1000) := by have := ok.trl n8 d; unfold Hid; omega
  have HDN : Hid (m.dn d k ≤ 64) := Nat.le_trans (ok.dn d k) (ok.len d k)
  have HDM : Hid _ := hdom
  obtain ⟨iss, hiss⟩ : ∃ a, (m.wk k).issue = a := ⟨_, rfl⟩
  rw [hiss] at HE is0 is1
  have HIS : Hid _ := hiss
  have wi1 : IntKind.i64.wrap (iss + 3) = iss + 3 := by rw [IntKind.wrap_i64]; omega
  have wi2 : IntKind.i64.wrap (iss + 3 - 1) = iss + 2 := by rw [IntKind.wrap_i64]; omega
  have wi3 : iss + 3 - 1 = iss + 2 := by omega
  obtain ⟨fv, hfv⟩ : ∃ fv, faultF N.c o = fv := ⟨_, rfl⟩
  rw [hfv] at HE
  have HFV : Hid _ := hfv
  clear h ok hb n1 n2 n3 n4 n5 n6 n7 ho hdom hdn hiss hfv
  go_enter Tryz.func156, Tryz.ntmps156
  go_wp2_with fail
  refine (hNx _ HM.out).mono ?_; rintro e w1 ⟨rfl, hb1⟩
  have M1 := HM.out.below hb1 (Nat.le_refl _)
  have hbA : Below w1.heap.size w1 (w1.alloc (.cells (opArr o) 69)) := (Below.refl _ _).alloc (Nat.le_refl _) _
  have M2 := M1.below hbA (Nat.le_refl _)
  have hFt := kfault_any N X m o _ M2
  rw [HFV.out] at hFt
  have HG2 : Hid (Goes w (w1.alloc (.cells (opArr o) 69)) X X) := (Goes.of_below hb1).trans (Goes.of_below hbA)
  have HM2 : Hid _ := M2
  have hsz : w1.heap.size ≤ (w1.alloc (.cells (opArr o) 69)).heap.size := hbA.size
  have hbw := hb1.size
  obtain ⟨o1, o2, o3⟩ := o
  clear hNx c19 k1 hb1 M1 M2 hbA
  go_wp2_with fail
  refine hFt.mono ?_; rintro e w2 ⟨rfl, hb2⟩
  have M3 := HM2.out.below hb2 (Nat.le_refl _)
  have HG3 : Hid (Goes w w2 X X) := HG2.out.trans (Goes.of_below hb2)
  have HM3 : Hid _ := M3
  clear hFt
  by_cases a1 : fv = 0
  · have HE2 : Hid (m.endFault N k = m) := by unfold Hid; rw [HE.out, if_neg (by omega)]
    have a1b : (fv == 0) = true := by simp [a1]
    clear a1
    go_wp2
    refine bodyPost_ret (results_none rfl _ _ _) rfl ?_
    exact ⟨rfl, X, by rw [HE2.out]; exact HM3.out, HG3.out⟩
  · have a1b : (fv == 0) = false := by simp [a1]
    have c13 : w2.cell? ⟨X.g, 13, none⟩ = some (.int .i64 m.now) := by rw [M3.row.cell]; rfl
    have c19 : w2.cell? ⟨X.g, 19, none⟩ = some (.slice (some ⟨X.ck, 0, none⟩) N.nc N.nc) := by rw [M3.row.cell]; rfl
    have k2 : w2.cell? ⟨X.ck, k * 3 + 2, none⟩ = some (.int .i64 iss) := by rw [← HIS.out]; exact (wk_at M3.wks hk).2.2
    clear M3
    by_cases a2 : iss + 2 ≤ m.now
    · have HE2 : Hid (m.endFault N k = m.finish k 0 fv) := by unfold Hid; rw [HE.out, if_pos ⟨a1, a2⟩]
      go_wp2_with fail
      go_quiet (fail)
      go_wp2_with fail
      have hbq : Below w2.heap.size w2 (w2.drewN nq) := below_drewN (Below.refl _ _) _
      refine (kfinish_any N X m k d 0 fv _ (HM3.out.below hbq (Nat.le_refl _)) hk hd HDM.out HDN.out HTL.out).mono ?_
      rintro e w3 ⟨rfl, X', hM, hG⟩
      go_wp2
      refine bodyPost_end (results_none rfl _ _ _) rfl ?_
      exact ⟨rfl, X', by rw [HE2.out]; exact hM, (HG3.out.trans (Goes.of_below hbq)).trans hG⟩
    · have HE2 : Hid (m.endFault N k = m) := by unfold Hid; rw [HE.out, if_neg (by omega)]
      go_wp2_with fail
      go_quiet (fail)
      go_wp2
      refine bodyPost_end (results_none rfl _ _ _) rfl ?_
      exact ⟨rfl, X, by rw [HE2.out]; exact HM3.out.below (below_drewN (Below.refl _ _) _) (Nat.le_refl _), HG3.out.trans (Goes.of_below (below_drewN (Below.refl _ _) _))⟩
end Go.Proofs.YtehheaedbnfidaaGreat
