/-
  One domain's play: where, lies, marked.
-/
import Derived.Test.YtehheaedbnfidaaGreatClRefS
import Derived.Deep.RegionHeld3
namespace Go.Proofs.YtehheaedbnfidaaGreat
open Go.RowKit

def ent0 : Ent := ⟨0, 0, 0, 0, 0, false, false, 0, 0⟩
theorem drop_rev (log : List Ent) (k : Nat) (h : k + 1 ≤ log.length) : log.drop (log.length - (k + 1)) = log.reverse.getD k ent0 :: log.drop (log.length - k) := by
  have hm : log.length - (k + 1) < log.length := by omega
  rw [List.drop_eq_getElem_cons hm, show log.length - (k + 1) + 1 = log.length - k by omega]
  congr 1
  have : k < log.reverse.length := by simp; omega
  rw [List.getD_eq_getElem?_getD, List.getElem?_eq_getElem this, Option.getD_some, List.getElem_reverse]
  congr 1
  omega

theorem getD_mem_rev (log : List Ent) (k : Nat) (h : k < log.length) : log.reverse.getD k ent0 ∈ log := by
  have : k < log.reverse.length := by simpa using h
  rw [List.getD_eq_getElem?_getD, List.getElem?_eq_getElem this, Option.getD_some]
  exact List.mem_reverse.1 (List.getElem_mem this)

set_option maxRecDepth 100000 in
set_option maxHeartbeats 1600000 in
theorem rwhere_any (X : SLoc) (c : Cf) (sl : Sl) (L : RLoc) (T x : Int) (log : List Ent) (w : World) (h : SoR w X c sl L T) (hl : LogAt w X.la X.ll log) :
    Calls Tryz.prog 126 #[.pointer (some ⟨X.gs, 0, none⟩), .int .i64 x] w fun e w' => e = .returned (.int .i64 (whereF x log)) ∧ Below w.heap.size w w' := by
  have hm := hl.hmax
  have c2 : w.cell? ⟨X.gs, 2, none⟩ = some (.slice X.la X.ll X.lc) := by rw [h.row.cell]; rfl
  have HL : Hid (log.length = X.ll) := hl.hlen
  go_enter Tryz.func126, Tryz.ntmps126
  go_wp2_with fail
  go_loopw [5] (fun i wr => ∃ k : Nat, k ≤ X.ll ∧ i = .int .i64 ((k : Int) - 1) ∧ whereF x log = whereF x (log.drop (log.length - k)) ∧ Below w.heap.size w wr) (fun i _ => (intOf i + 1).toNat)
  case atStart => exact ⟨X.ll, Nat.le_refl _, rfl, by rw [HL.out, Nat.sub_self, List.drop_zero], Below.refl _ _⟩
  case round =>
    obtain ⟨k, hk, rfl, hf, hb⟩ := hrel
    have HF : Hid _ := hf
    clear hf
    by_cases hlt : 0 < k
    · obtain ⟨k', rfl⟩ : ∃ k', k = k' + 1 := ⟨k - 1, by omega⟩
      have e1 : (((k' + 1 : Nat) : Int) - 1) = (k' : Int) := by omega
      rw [e1]
      obtain ⟨b, hla, hlb, hcs⟩ := (hl.below hb (Nat.le_refl _)).hat k' (by omega)
      have HE : Hid _ := drop_rev log k' (by rw [HL.out]; omega)
      unfold ent0 at HE
      have cr2 := (h.below hb (Nat.le_refl _)).row.cell 2
      have z0 := hcs 0 (by omega)
      have z1 := hcs 1 (by omega)
      have z2 := hcs 2 (by omega)
      have z3 := hcs 3 (by omega)
      have z4 := hcs 4 (by omega)
      have z5 := hcs 5 (by omega)
      have z6 := hcs 6 (by omega)
      have z7 := hcs 7 (by omega)
      have z8 := hcs 8 (by omega)
      generalize log.reverse.getD k' ⟨0, 0, 0, 0, 0, false, false, 0, 0⟩ = e at *
      obtain ⟨et, ewhat, ecore, eline, eway, est, elo, eaddr, eval⟩ := e
      simp only [List.getElem?_cons_zero, List.getElem?_cons_succ, Nat.add_zero] at z0 z1 z2 z3 z4 z5 z6 z7 z8 cr2
      rw [hla] at cr2
      clear hcs e1
      rcases Bool.eq_false_or_eq_true (eline == x) with a1 | a1
      · rcases Bool.eq_false_or_eq_true (ewhat == 1) with a2 | a2
        · go_wp2
          go_ret
          exact ⟨ret_int (by rw [HF.out, HE.out]; simp [whereF, a1, a2]), hb.alloc hb.size _⟩
        · rcases Bool.eq_false_or_eq_true (ewhat == 2) with a3 | a3
          · go_wp2
            go_ret
            exact ⟨ret_int (by rw [HF.out, HE.out]; simp [whereF, a1, a2, a3]), hb.alloc hb.size _⟩
          · go_wp2
            go_roundw
            case rel => exact ⟨k', by omega, rfl, by rw [HF.out, HE.out]; simp [whereF, a1, a2, a3], hb.alloc hb.size _⟩
            case measure => simp [intOf]
      · go_wp2
        go_roundw
        case rel => exact ⟨k', by omega, rfl, by rw [HF.out, HE.out]; simp [whereF, a1], hb.alloc hb.size _⟩
        case measure => simp [intOf]
    · obtain rfl : k = 0 := by omega
      go_wp2
      go_ret
      exact ⟨ret_int (by rw [HF.out, Nat.sub_zero, List.drop_length]; rfl), hb⟩
end Go.Proofs.YtehheaedbnfidaaGreat
