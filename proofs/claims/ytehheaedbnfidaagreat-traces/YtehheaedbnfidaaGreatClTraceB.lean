/-
  The walk of wallslaw's traced, where there is no trace.
-/
import Derived.Test.YtehheaedbnfidaaGreatClTraceG
namespace Go.Proofs.YtehheaedbnfidaaGreat
open Go.RowKit

set_option maxRecDepth 100000 in
set_option maxHeartbeats 6400000 in
theorem traced_bad (W w : World) (o : Own) (ea : Option Addr) (en ec : Nat) (p b : Value) (ts : List Int) (os : List (Int × Int × Int)) (zone : Nat → Option Nat) (n : Nat) (X : Nat → XLoc) (m : Nat → Mh) (L : Nat → RLoc) (M : Nat → RDat) (ma : Option Addr) (mc : Nat) (h : MI W w o (.slice ea en ec) p b ts os zone n X m L M ma mc)
    (aE : Nat → Option Addr) (lE : Nat → Nat) (hE : Outs w W.heap.size 56 58 markE (.slice ea en ec) en aE lE) (hEz : ∀ g, OB (.slice ea en ec) en aE lE g → ¬ MZ W.heap.size o zone (.slice ma n mc) g) (j : Nat) (hj : j < n) (d : Int) (hd : d < 0 ∨ (M j).c.domains ≤ d) (hbig : (en + 1) * 24 ≤ 140737488355328) :
    Calls Tryz.prog 16 #[.pointer (some ⟨W.heap.size, 0, none⟩), .agg (prA (X j).g (L j).gr), .int .i64 d] w fun x w' => x = .returned (.bool true) ∧ ∃ ea' ec' aE' lE', MI W w' o (.slice ea' (en + 1) ec') p b ts os zone n X m L M ma mc ∧ Outs w' W.heap.size 56 58 markE (.slice ea' (en + 1) ec') (en + 1) aE' lE' ∧
      Touch (fun g => g = W.heap.size ∨ (Value.slice ea en ec).ownBlock = some g) w w' ∧ ∀ g, g < w.heap.size → OB (.slice ea' (en + 1) ec') (en + 1) aE' lE' g → OB (.slice ea en ec) en aE lE g := by
  have hb0 : Below w.heap.size w (w.alloc (.cells (prA (X j).g (L j).gr) 50)) := (Below.refl _ _).alloc (Nat.le_refl _) _
  have rP : Row (w.alloc (.cells (prA (X j).g (L j).gr) 50)) w.heap.size [.pointer (some ⟨(X j).g, 0, none⟩), .pointer (some ⟨(L j).gr, 0, none⟩)] 50 := heap_alloc_new w _
  obtain ⟨wb, hwb⟩ : ∃ wb, w.alloc (.cells (prA (X j).g (L j).gr) 50) = wb := ⟨_, rfl⟩
  rw [hwb] at hb0 rP
  have H0 := h.below hb0
  have hz := (h.ms.ref j hj).right
  have hT0 := (h.ms.ref j hj).T0
  have hpd := h.ms.pair j hj
  have hok := (hpd.ok hz hT0).1
  have hF := wTrace_any (cnOf (M j).c) (X j) (m j) d wb (H0.ms.mach j hj) hok
  have hV : traceV (cnOf (M j).c) (m j) d wb.heap.size = .slice none 0 0 := by
    unfold traceV
    exact if_pos (show d < 0 ∨ (cnOf (M j).c).c.domains ≤ d from hd)
  have hW : traceW (cnOf (M j).c) (m j) d wb = wb := by
    unfold traceW
    exact if_pos (show d < 0 ∨ (cnOf (M j).c).c.domains ≤ d from hd)
  have hme : traceME (cnOf (M j).c) d = 6 := by
    unfold traceME
    exact if_pos (show d < 0 ∨ (cnOf (M j).c).c.domains ≤ d from hd)
  rw [hV, hW, hme] at hF
  have hR := rTrace_bad (L j) (M j) d wb (H0.ms.ref j hj) hd
  have p0 : wb.cell? ⟨w.heap.size, 0, none⟩ = some (.pointer (some ⟨(X j).g, 0, none⟩)) := rP.cell 0
  have p1 : wb.cell? ⟨w.heap.size, 1, none⟩ = some (.pointer (some ⟨(L j).gr, 0, none⟩)) := rP.cell 1
  have l0 := rP.lt
  have rW : Row wb W.heap.size (ownL o (.slice ma n mc) (.slice ea en ec) p b) 34 := H0.ws.row
  have g4 : wb.cell? ⟨W.heap.size, 4, none⟩ = some (.slice ea en ec) := rW.cell 4
  have lW := rW.lt
  have hnl : ∀ v : World, (binOp .eql 56 (.slice none 0 0) (.slice none 0 0)).run Tryz.prog v = .ok (.bool true) v := fun v => eql_nil v _ _ _ _ _ Tryz.underlying56
  have HO : Hid (wb.ownsRow W.heap.size 56 1 (.slice ea en ec) en ((List.range en).map fun i => .slice (aE i) (lE i) (lE i))) := owns_same hE.row (fun g hg => hb0.block g (owns_lt hE.row g hg).1)
  have HRW : Hid (Row wb W.heap.size (ownL o (.slice ma n mc) (.slice ea en ec) p b) 34) := rW
  have ag : (Value.slice ea en ec).ownBlock ≠ some W.heap.size := own_ne HO.out rW (by decide)
  obtain ⟨i0, hi0, hz0, hz1, hz2⟩ := info_parts Tryz.infoEvs
  have HBIG : Hid _ := hbig
  have HSZ : Hid (W.heap.size ≤ w.heap.size) := h.bel.size
  have HWB : Hid _ := hwb
  have HH : Hid _ := h
  have HE : Hid _ := hE
  have HEZ : Hid _ := hEz
  have HBV : Hid _ := hb0
  clear h hE hEz hb0 rP rW hz hT0 hpd hok hV hW hme hwb H0 hbig hd
  go_enter Tryz.func16, Tryz.ntmps16
  go_wp2_with fail
  rw [HWB.out]
  refine hF.mono ?_; rintro x v1 ⟨rfl, rfl⟩
  go_wp2_with fail
  refine hR.mono ?_; rintro x v2 ⟨rfl, rfl⟩
  go_wp2_with fail
  refine wp_loop_rounds 1 ?_
  rw [rounds_succ]
  go_wp2_with fail
  refine wp_loop_rounds 1 ?_
  rw [rounds_succ]
  clear p0 p1 hnl
  go_wp2_with (at_builtin; refine wpList_append_lies _ rfl _ _ 30 rfl W.heap.size 56 i0 _ 1 24 Tryz.underlying30 hi0 hz0 hz1 hz2 rfl (by decide) (.slice ea en ec) en ((List.range en).map fun i => .slice (aE i) (lE i) (lE i)) rfl ?p1 ⟨v2.heap.size, 0, none⟩ 1 1 [.slice none 0 0] ?p9 rfl ?p3 ?p4 (by omega) ?p5 ?p6 ?p7 _ rfl ?p8)
  case p1 => exact World.ownsRow.alloc HO.out _
  try case p3 => exact World.news_of_block (cs := #[.slice none 0 0]) (t := 56) (fr := (0, 0)) (heap_alloc_new v2 _)
  case p4 => simp [Value.oneCell']
  case p5 => have := HBIG.out; unfold maxLen; omega
  case p6 => exact HBIG.out
  case p7 => have := HBV.out.size; have := HSZ.out; simp; omega
  try case p9 => rfl
  case p8 =>
    intro gg cap w8 hown8 hgrow hat hlt8
    have f2 : w8.frozen? ⟨W.heap.size, 4, none⟩ = false := (hgrow.frozen_far ⟨W.heap.size, 4, none⟩ (by simp; omega) (Ne.symm ag)).trans ((Row.alloc HRW.out _).frozen 4)
    have c4 : w8.cell? ⟨W.heap.size, 4, none⟩ = some (.slice ea en ec) := (hgrow.cell_far ⟨W.heap.size, 4, none⟩ (by simp; omega) (Ne.symm ag)).trans ((Row.alloc HRW.out _).cell 4)
    have HA : Hid _ := Outs.done (f := 4) (a' := none) (l' := 0) HH.out HE.out (by decide) (by decide) (by decide) HBV.out (show 0 ≤ 9223372036854775807 by omega) (fun q => absurd rfl q) ((Below.refl _ _).alloc (Nat.le_refl _) _) hgrow hown8 (hat.imp id (fun q => by have := HBV.out.size; first | omega | (simp at q; omega) | (rw [q]; simp; omega)))
    clear hown8 hgrow hat
    go_wp2
    go_ret
    obtain ⟨g1, g2, g3, g5⟩ := HA.out
    exact ⟨rfl, some ⟨gg, 0, none⟩, cap, _, _, HH.out.out (K := fun g => (Value.slice ea en ec).ownBlock = some g) g1 g3 (fun g hg => ⟨(HE.out.lt (Or.inl hg)).1, HEZ.out g (Or.inl hg)⟩), g2, g3, g5⟩
end Go.Proofs.YtehheaedbnfidaaGreat
