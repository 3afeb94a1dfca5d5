/-
  One domain's play: lies.
-/
import Derived.Test.YtehheaedbnfidaaGreatClRefS2
namespace Go.Proofs.YtehheaedbnfidaaGreat
open Go.RowKit

set_option maxRecDepth 100000 in
set_option maxHeartbeats 3200000 in
theorem rlies_any (X : SLoc) (c : Cf) (sl : Sl) (L : RLoc) (T set way : Int) (log : List Ent) (w : World) (h : SoR w X c sl L T) (hl : LogAt w X.la X.ll log) (hok : ∀ e ∈ log, EntOk e) :
    Calls Tryz.prog 90 #[.pointer (some ⟨X.gs, 0, none⟩), .int .i64 set, .int .i64 way] w fun e w' => e = .returned (.int .i64 (liesF c set way log)) ∧ Below w.heap.size w w' := by
  have hm := hl.hmax
  have c2 : w.cell? ⟨X.gs, 2, none⟩ = some (.slice X.la X.ll X.lc) := by rw [h.row.cell]; rfl
  have HL : Hid (log.length = X.ll) := hl.hlen
  obtain ⟨_, _, _, _, _, hsets, _⟩ := shape_bounds (chk_zero h.ok).1
  have y1 : 0 < c.sets := by omega
  have y0 : ¬ c.sets = 0 := by omega
  clear hsets
  go_enter Tryz.func90, Tryz.ntmps90
  go_wp2_with fail
  go_loopw [7] (fun i wr => ∃ k : Nat, k ≤ X.ll ∧ i = .int .i64 ((k : Int) - 1) ∧ liesF c set way log = liesF c set way (log.drop (log.length - k)) ∧ Below w.heap.size w wr) (fun i _ => (intOf i + 1).toNat)
  case atStart => exact ⟨X.ll, Nat.le_refl _, rfl, by rw [HL.out, Nat.sub_self, List.drop_zero], Below.refl _ _⟩
  case round =>
    obtain ⟨k, hk, rfl, hf, hb⟩ := hrel
    have HF : Hid _ := hf
    clear hf
    by_cases hlt : 0 < k
    · obtain ⟨k', rfl⟩ : ∃ k', k = k' + 1 := ⟨k - 1, by omega⟩
      have e1 : (((k' + 1 : Nat) : Int) - 1) = (k' : Int) := by omega
      rw [e1]
      obtain ⟨b, hla, hlb, hcs⟩ := (hl.below hb (Nat.le_refl _)).hat k' (by omega)
      have HE : Hid _ := drop_rev log k' (by rw [HL.out]; omega)
      have HO : EntOk (log.reverse.getD k' ent0) := hok _ (getD_mem_rev log k' (by rw [HL.out]; omega))
      unfold ent0 at HE HO
      have cr2 := (h.below hb (Nat.le_refl _)).row.cell 2
      have z0 := hcs 0 (by omega)
      have z1 := hcs 1 (by omega)
      have z2 := hcs 2 (by omega)
      have z3 := hcs 3 (by omega)
      have z4 := hcs 4 (by omega)
      have z5 := hcs 5 (by omega)
      have z6 := hcs 6 (by omega)
      have z7 := hcs 7 (by omega)
      have z8 := hcs 8 (by omega)
      generalize log.reverse.getD k' ⟨0, 0, 0, 0, 0, false, false, 0, 0⟩ = e at *
      obtain ⟨et, ewhat, ecore, eline, eway, est, elo, eaddr, eval⟩ := e
      simp only [List.getElem?_cons_zero, List.getElem?_cons_succ, Nat.add_zero] at z0 z1 z2 z3 z4 z5 z6 z7 z8 cr2
      rw [hla] at cr2
      obtain ⟨l0, l1, t0, t1⟩ := HO
      dsimp only at l0 l1 t0 t1
      clear hcs e1
      have hbW : Below w.heap.size w (wr.alloc (.cells #[.int .i64 et, .int .i64 ewhat, .int .i64 ecore, .int .i64 eline, .int .i64 eway, .bool est, .bool elo, .int .i64 eaddr, .int .i64 eval] 132)) := hb.alloc hb.size _
      have hRW := h.below hbW (Nat.le_refl _)
      have rB : Row (wr.alloc (.cells #[.int .i64 et, .int .i64 ewhat, .int .i64 ecore, .int .i64 eline, .int .i64 eway, .bool est, .bool elo, .int .i64 eaddr, .int .i64 eval] 132)) wr.heap.size [.int .i64 et, .int .i64 ewhat, .int .i64 ecore, .int .i64 eline, .int .i64 eway, .bool est, .bool elo, .int .i64 eaddr, .int .i64 eval] 132 := heap_alloc_new wr _
      have r0 : (wr.alloc (.cells #[.int .i64 et, .int .i64 ewhat, .int .i64 ecore, .int .i64 eline, .int .i64 eway, .bool est, .bool elo, .int .i64 eaddr, .int .i64 eval] 132)).cell? ⟨X.gs, 0, none⟩ = some (.pointer (some ⟨X.gr, 0, none⟩)) := by rw [hRW.row.cell]; rfl
      have r6 : (wr.alloc (.cells #[.int .i64 et, .int .i64 ewhat, .int .i64 ecore, .int .i64 eline, .int .i64 eway, .bool est, .bool elo, .int .i64 eaddr, .int .i64 eval] 132)).cell? ⟨X.gr, 6, none⟩ = some (.int .i64 c.sets) := by rw [hRW.mrow.cell]; rfl
      have d1 : (wr.alloc (.cells #[.int .i64 et, .int .i64 ewhat, .int .i64 ecore, .int .i64 eline, .int .i64 eway, .bool est, .bool elo, .int .i64 eaddr, .int .i64 eval] 132)).cell? ⟨wr.heap.size, 1, none⟩ = some (.int .i64 ewhat) := by rw [rB.cell]; rfl
      have d3 : (wr.alloc (.cells #[.int .i64 et, .int .i64 ewhat, .int .i64 ecore, .int .i64 eline, .int .i64 eway, .bool est, .bool elo, .int .i64 eaddr, .int .i64 eval] 132)).cell? ⟨wr.heap.size, 3, none⟩ = some (.int .i64 eline) := by rw [rB.cell]; rfl
      have d4 : (wr.alloc (.cells #[.int .i64 et, .int .i64 ewhat, .int .i64 ecore, .int .i64 eline, .int .i64 eway, .bool est, .bool elo, .int .i64 eaddr, .int .i64 eval] 132)).cell? ⟨wr.heap.size, 4, none⟩ = some (.int .i64 eway) := by rw [rB.cell]; rfl
      rcases Bool.eq_false_or_eq_true (eline % c.sets == set) with a1 | a1
      · rcases Bool.eq_false_or_eq_true (eway == way) with a2 | a2
        · rcases Bool.eq_false_or_eq_true (ewhat == 1) with a3 | a3
          · go_wp2_with fail
            generalize wr.alloc (.cells #[.int .i64 et, .int .i64 ewhat, .int .i64 ecore, .int .i64 eline, .int .i64 eway, .bool est, .bool elo, .int .i64 eaddr, .int .i64 eval] 132) = W at *
            go_quiet (fail)
            go_wp2
            go_ret
            exact ⟨ret_int (by rw [HF.out, HE.out]; simp [liesF, a1, a2, a3]), below_drewN hbW _⟩
          · rcases Bool.eq_false_or_eq_true (ewhat == 2) with a4 | a4
            · go_wp2_with fail
              generalize wr.alloc (.cells #[.int .i64 et, .int .i64 ewhat, .int .i64 ecore, .int .i64 eline, .int .i64 eway, .bool est, .bool elo, .int .i64 eaddr, .int .i64 eval] 132) = W at *
              go_quiet (fail)
              go_wp2_with fail
              go_quiet (fail)
              go_wp2
              go_ret
              exact ⟨ret_int (by rw [HF.out, HE.out]; simp [liesF, a1, a2, a3, a4]), by first | exact below_drewN hbW _ | exact below_drewN (below_drewN hbW _) _⟩
            · go_wp2_with fail
              generalize wr.alloc (.cells #[.int .i64 et, .int .i64 ewhat, .int .i64 ecore, .int .i64 eline, .int .i64 eway, .bool est, .bool elo, .int .i64 eaddr, .int .i64 eval] 132) = W at *
              go_quiet (fail)
              go_wp2_with fail
              go_quiet (fail)
              go_wp2
              go_roundw
              case rel => exact ⟨k', by omega, rfl, by rw [HF.out, HE.out]; simp [liesF, a1, a2, a3, a4], below_drewN hbW _⟩
              case measure => simp [intOf]
        · go_wp2_with fail
          generalize wr.alloc (.cells #[.int .i64 et, .int .i64 ewhat, .int .i64 ecore, .int .i64 eline, .int .i64 eway, .bool est, .bool elo, .int .i64 eaddr, .int .i64 eval] 132) = W at *
          go_quiet (fail)
          go_wp2_with fail
          go_quiet (fail)
          go_wp2
          go_roundw
          case rel => exact ⟨k', by omega, rfl, by rw [HF.out, HE.out]; simp [liesF, a1, a2], below_drewN hbW _⟩
          case measure => simp [intOf]
      · go_wp2_with fail
        generalize wr.alloc (.cells #[.int .i64 et, .int .i64 ewhat, .int .i64 ecore, .int .i64 eline, .int .i64 eway, .bool est, .bool elo, .int .i64 eaddr, .int .i64 eval] 132) = W at *
        go_quiet (fail)
        go_wp2_with fail
        go_quiet (fail)
        go_wp2
        go_roundw
        case rel => exact ⟨k', by omega, rfl, by rw [HF.out, HE.out]; simp [liesF, a1], below_drewN hbW _⟩
        case measure => simp [intOf]
    · obtain rfl : k = 0 := by omega
      go_wp2
      go_ret
      exact ⟨ret_int (by rw [HF.out, Nat.sub_zero, List.drop_length]; rfl), hb⟩
end Go.Proofs.YtehheaedbnfidaaGreat
