/-
  One domain's play: first, word, memory.
-/
import Derived.Test.YtehheaedbnfidaaGreatClRefS2
namespace Go.Proofs.YtehheaedbnfidaaGreat
open Go.RowKit

def RDat.toM (M : RDat) : MDat := ⟨M.c, M.pr, M.ow, M.cm⟩

theorem RefM.below {w w' : World} {L : RLoc} {M : RDat} {n : Nat} (h : RefM w L M) (hb : Below n w w') (hn : w.heap.size ≤ n) : RefM w' L M := by
  have n1 : ∀ {g A t}, Row w g A t → Row w' g A t := fun hr => hr.below hb (Nat.lt_of_lt_of_le hr.lt hn)
  refine ⟨n1 h.row, h.np, h.nd, h.ns, n1 h.prow, h.plen, ?_, n1 h.orow, ?_, h.odis, n1 h.crow, h.clen, h.cdis, h.right, h.T0, h.T1, h.pmax⟩
  · intro i hi
    rcases h.pat i hi with h1 | ⟨h1, h2⟩
    · exact Or.inl h1
    · exact Or.inr ⟨h1, n1 h2⟩
  · intro d hd
    exact ⟨(h.oat d hd).1, n1 (h.oat d hd).2⟩

set_option maxRecDepth 100000 in
set_option maxHeartbeats 1600000 in
theorem rfirst_any (X : SLoc) (L : RLoc) (M : RDat) (a : Int) (w : World) (h : Row w X.gs (soloL X) 126) (hM : RefM w L M) (hg : X.gr = L.gr) (hd : X.d < L.nd) (a0 : 0 ≤ a) (a1 : a < M.c.priv + M.c.shared) :
    Calls Tryz.prog 97 #[.pointer (some ⟨X.gs, 0, none⟩), .int .i64 a] w fun e w' => e = .returned (.int .i64 (firstF0 M.toM X.d a)) ∧ Below w.heap.size w w' := by
  have c0 : w.cell? ⟨X.gs, 0, none⟩ = some (.pointer (some ⟨L.gr, 0, none⟩)) := by rw [h.cell, ← hg]; rfl
  have c1 : w.cell? ⟨X.gs, 1, none⟩ = some (.int .i64 X.d) := by rw [h.cell]; rfl
  have m3 : w.cell? ⟨L.gr, 3, none⟩ = some (.int .i64 M.c.priv) := by rw [hM.row.cell]; rfl
  have m14 : w.cell? ⟨L.gr, 14, none⟩ = some (.slice (some ⟨L.go, 0, none⟩) L.nd L.nd) := by rw [hM.row.cell]; rfl
  have m15 : w.cell? ⟨L.gr, 15, none⟩ = some (.slice (some ⟨L.gc, 0, none⟩) L.ns L.ns) := by rw [hM.row.cell]; rfl
  have o1 : w.cell? ⟨L.go, X.d, none⟩ = some (.slice (some ⟨L.D X.d, 0, none⟩) M.c.priv.toNat M.c.priv.toNat) := by
    rw [hM.orow.cell, List.getElem?_map, List.getElem?_range hd]; rfl
  obtain ⟨ol, orow⟩ := hM.oat X.d hd
  obtain ⟨_, _, _, hdm, _, _, _, p1, p2, sh0, sh1⟩ := shape_bounds (chk_zero hM.right).1
  have hnd := hM.nd
  have hns := hM.ns
  by_cases a2 : a < M.c.priv
  · have HZ : Hid (firstF0 M.toM X.d a = (M.ow X.d).getD a.toNat 0) := by unfold Hid firstF0; rw [if_pos (show a < M.toM.c.priv from a2)]; rfl
    obtain ⟨i, rfl⟩ := Int.eq_ofNat_of_zero_le a0
    rw [Int.toNat_natCast] at HZ
    obtain ⟨q, hq⟩ := Int.eq_ofNat_of_zero_le (show 0 ≤ M.c.priv by omega)
    have hq' : M.c.priv.toNat = q := by omega
    rw [hq'] at o1 ol
    have hi : i < q := by omega
    have o2 : w.cell? ⟨L.D X.d, i, none⟩ = some (.int .i64 ((M.ow X.d).getD i 0)) := by
      rw [orow.cell, List.getElem?_map, List.getElem?_eq_getElem (by omega)]
      simp [List.getD, List.getElem?_eq_getElem (show i < (M.ow X.d).length by omega)]
    generalize (M.ow X.d).getD i 0 = v at *
    have hq2 : q ≤ 64 := by omega
    have hd2 : L.nd ≤ 4 := by omega
    have HQ : Hid _ := hq
    have HND : Hid _ := hnd
    have HNS : Hid _ := hns
    clear hq hq' ol hnd hns
    go_enter Tryz.func97, Tryz.ntmps97
    go_wp2_with fail
    go_quiet (fail)
    go_wp2
    go_ret
    exact ⟨ret_int HZ.out.symm, below_drewN (Below.refl _ _) _⟩
  · have HZ : Hid (firstF0 M.toM X.d a = M.cm.getD (a - M.c.priv).toNat 0) := by unfold Hid firstF0; rw [if_neg (show ¬ a < M.toM.c.priv from a2)]; rfl
    obtain ⟨i, hi⟩ := Int.eq_ofNat_of_zero_le (show 0 ≤ a - M.c.priv by omega)
    rw [hi, Int.toNat_natCast] at HZ
    have hi2 : i < L.ns := by omega
    have o2 : w.cell? ⟨L.gc, i, none⟩ = some (.int .i64 (M.cm.getD i 0)) := by
      rw [hM.crow.cell, List.getElem?_map, List.getElem?_eq_getElem (by rw [hM.clen]; omega)]
      simp [List.getD, List.getElem?_eq_getElem (show i < M.cm.length by rw [hM.clen]; omega)]
    generalize M.cm.getD i 0 = v at *
    have hs2 : L.ns ≤ 32 := by omega
    have hea : a = M.c.priv + i := by omega
    subst hea
    have HND : Hid _ := hnd
    have HNS : Hid _ := hns
    have e2 : M.c.priv + (i : Int) - M.c.priv = (i : Int) := by omega
    clear hi ol hnd hns o1
    go_enter Tryz.func97, Tryz.ntmps97
    go_wp2_with fail
    go_quiet (fail)
    go_wp2
    go_ret
    exact ⟨ret_int HZ.out.symm, below_drewN (Below.refl _ _) _⟩

set_option maxRecDepth 100000 in
set_option maxHeartbeats 3200000 in
theorem rword_any (X : SLoc) (L : RLoc) (M : RDat) (a : Int) (n : Nat) (log : List Ent) (w : World) (h : Row w X.gs (soloL X) 126) (hM : RefM w L M) (hg : X.gr = L.gr) (hd : X.d < L.nd) (a0 : 0 ≤ a) (a1 : a < M.c.priv + M.c.shared) (hl : LogAt w X.la X.ll log) (hn : n ≤ X.ll) :
    Calls Tryz.prog 96 #[.pointer (some ⟨X.gs, 0, none⟩), .int .i64 a, .int .i64 n] w fun e w' => e = .returned (.int .i64 (wordF a (firstF0 M.toM X.d a) (log.drop (log.length - n)))) ∧ Below w.heap.size w w' := by
  have hm := hl.hmax
  have HL : Hid (log.length = X.ll) := hl.hlen
  go_enter Tryz.func96, Tryz.ntmps96
  go_wp2_with fail
  go_loopw [7] (fun i wr => ∃ k : Nat, k ≤ X.ll ∧ i = .int .i64 ((k : Int) - 1) ∧ wordF a (firstF0 M.toM X.d a) (log.drop (log.length - n)) = wordF a (firstF0 M.toM X.d a) (log.drop (log.length - k)) ∧ Below w.heap.size w wr) (fun i _ => (intOf i + 1).toNat)
  case atStart => exact ⟨n, hn, rfl, rfl, Below.refl _ _⟩
  case round =>
    obtain ⟨k, hk, rfl, hf, hb⟩ := hrel
    have HF : Hid _ := hf
    clear hf
    by_cases hlt : 0 < k
    · obtain ⟨k', rfl⟩ : ∃ k', k = k' + 1 := ⟨k - 1, by omega⟩
      have e1 : (((k' + 1 : Nat) : Int) - 1) = (k' : Int) := by omega
      rw [e1]
      obtain ⟨b, hla, hlb, hcs⟩ := (hl.below hb (Nat.le_refl _)).hat k' (by omega)
      have HE : Hid _ := drop_rev log k' (by rw [HL.out]; omega)
      unfold ent0 at HE
      have cr2 := (h.below hb h.lt).cell 2
      have z1 := hcs 1 (by omega)
      have z7 := hcs 7 (by omega)
      have z8 := hcs 8 (by omega)
      generalize log.reverse.getD k' ⟨0, 0, 0, 0, 0, false, false, 0, 0⟩ = e at *
      obtain ⟨et, ewhat, ecore, eline, eway, est, elo, eaddr, eval⟩ := e
      simp only [List.getElem?_cons_zero, List.getElem?_cons_succ] at z1 z7 z8 cr2
      rw [hla] at cr2
      clear hcs e1
      rcases Bool.eq_false_or_eq_true (ewhat == 4) with a2 | a2
      · rcases Bool.eq_false_or_eq_true (eaddr == a) with a3 | a3
        · go_wp2
          go_ret
          exact ⟨ret_int (by rw [HF.out, HE.out]; simp [wordF, a2, a3]), hb⟩
        · go_wp2
          go_roundw
          case rel => exact ⟨k', by omega, rfl, by rw [HF.out, HE.out]; simp [wordF, a2, a3], hb⟩
          case measure => simp [intOf]
      · go_wp2
        go_roundw
        case rel => exact ⟨k', by omega, rfl, by rw [HF.out, HE.out]; simp [wordF, a2], hb⟩
        case measure => simp [intOf]
    · obtain rfl : k = 0 := by omega
      go_wp2_with fail
      refine (rfirst_any X L M a _ (h.below hb h.lt) (hM.below hb (Nat.le_refl _)) hg hd a0 a1).mono ?_; rintro e w1 ⟨rfl, hb1⟩
      go_wp2
      go_ret
      exact ⟨ret_int (by rw [HF.out, Nat.sub_zero, List.drop_length]; rfl), below_step hb hb1 rfl⟩
end Go.Proofs.YtehheaedbnfidaaGreat
