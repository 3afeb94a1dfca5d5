/-
  One domain's play: lone.
-/
import Derived.Test.YtehheaedbnfidaaGreatClRefS6
import Derived.Test.YtehheaedbnfidaaGreatClRefS9
namespace Go.Proofs.YtehheaedbnfidaaGreat
open Go.RowKit

set_option maxRecDepth 100000 in
set_option maxHeartbeats 1600000 in
theorem rlone_any (X : SLoc) (c : Cf) (sl : Sl) (L : RLoc) (T core x t : Int) (log : List Ent) (w : World) (h : SoR w X c sl L T) (hl : LogAt w X.la X.ll log) (hok : ∀ e ∈ log, EntOk e) (x0 : 0 ≤ x) :
    Calls Tryz.prog 129 #[.pointer (some ⟨X.gs, 0, none⟩), .int .i64 core, .int .i64 x, .int .i64 t] w fun e w' => e = .returned (.bool (loneF c core x t log c.cores.toNat 0)) ∧ Below w.heap.size w w' := by
  have k1 := h.right.c1
  have k2 := h.right.c2
  obtain ⟨n, hn⟩ := Int.eq_ofNat_of_zero_le (show 0 ≤ c.cores by omega)
  have hn' : c.cores.toNat = n := by omega
  rw [hn']
  have c0 : w.cell? ⟨X.gs, 0, none⟩ = some (.pointer (some ⟨X.gr, 0, none⟩)) := by rw [h.row.cell]; rfl
  have m0 : w.cell? ⟨X.gr, 0, none⟩ = some (.int .i64 n) := by rw [h.mrow.cell, ← hn]; rfl
  have HN : Hid _ := hn
  have n3 : n ≤ 3 := by omega
  clear hn hn' k1 k2
  go_enter Tryz.func129, Tryz.ntmps129
  go_wp2_with fail
  go_loopw [9] (fun j wr => ∃ k : Nat, k ≤ n ∧ j = .int .i64 k ∧ loneF c core x t log n 0 = loneF c core x t log (n - k) k ∧ Below w.heap.size w wr) (fun j _ => (n - intOf j).toNat)
  case atStart => exact ⟨0, by omega, rfl, by simp, Below.refl _ _⟩
  case round =>
    obtain ⟨k, hk, rfl, hf, hb⟩ := hrel
    have HF : Hid _ := hf
    have hR := h.below hb (Nat.le_refl _)
    have cr0 : wr.cell? ⟨X.gs, 0, none⟩ = some (.pointer (some ⟨X.gr, 0, none⟩)) := by rw [hR.row.cell]; rfl
    have mr0 : wr.cell? ⟨X.gr, 0, none⟩ = some (.int .i64 n) := by rw [hR.mrow.cell, ← HN.out]; rfl
    clear hf c0 m0
    by_cases hlt : k < n
    · have hlt' : (k : Int) < (n : Int) := by omega
      have HU : Hid (loneF c core x t log (n - k) k = if (k : Int) ≠ core ∧ stateF c k x t false log ≠ 0 then false else loneF c core x t log (n - (k + 1)) (k + 1 : Nat)) := by
        unfold Hid
        rw [show n - k = (n - (k + 1)) + 1 by omega, loneF, show ((k + 1 : Nat) : Int) = (k : Int) + 1 by omega]
      by_cases a1 : (k : Int) = core
      · have a1' : ((k : Int) != core) = false := by simpa using a1
        have HA : Hid _ := a1
        clear a1
        go_wp2
        go_roundw
        case rel => exact ⟨k + 1, by omega, by go_num, by rw [HF.out, HU.out, if_neg (fun hh => hh.1 HA.out)], hb⟩
        case measure => simp [intOf]; omega
      · have a1' : ((k : Int) != core) = true := by simpa using a1
        have HA : Hid _ := a1
        clear a1
        by_cases a2 : stateF c k x t false log = 0
        · go_wp2_with fail
          refine (rstate_any X c sl L T k x t log _ hR (hl.below hb (Nat.le_refl _)) hok x0).mono ?_; rintro e w2 ⟨rfl, hb2⟩
          have a2' : (stateF c k x t false log != 0) = false := by simpa using a2
          have HA2 : Hid _ := a2
          clear a2
          go_wp2
          go_roundw
          case rel => exact ⟨k + 1, by omega, by go_num, by rw [HF.out, HU.out, if_neg (fun hh => hh.2 HA2.out)], below_step hb hb2 rfl⟩
          case measure => simp [intOf]; omega
        · go_wp2_with fail
          refine (rstate_any X c sl L T k x t log _ hR (hl.below hb (Nat.le_refl _)) hok x0).mono ?_; rintro e w2 ⟨rfl, hb2⟩
          have a2' : (stateF c k x t false log != 0) = true := by simpa using a2
          have HA2 : Hid _ := a2
          clear a2
          go_wp2
          go_ret
          exact ⟨ret_bool (by rw [HF.out, HU.out, if_pos ⟨HA.out, HA2.out⟩]), below_step hb hb2 rfl⟩
    · have ek : k = n := by omega
      subst ek
      go_wp2
      go_ret
      exact ⟨ret_bool (by rw [HF.out, Nat.sub_self]; rfl), hb⟩
end Go.Proofs.YtehheaedbnfidaaGreat
