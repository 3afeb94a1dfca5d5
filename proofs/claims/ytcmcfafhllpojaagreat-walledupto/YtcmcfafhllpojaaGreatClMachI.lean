/-
  The landed machine: step.
-/
import Derived.Test.YtcmcfafhllpojaaGreatClMachG
import Derived.Test.YtcmcfafhllpojaaGreatClMachH
namespace Go.Proofs.YtcmcfafhllpojaaGreat
open Go.RowKit

theorem finishC : FinishC := fun N X m k d v f w h hk hd h1 h2 h3 => kfinish_any N X m k d v f w h hk hd h1 h2 h3

theorem turn_range {c : Cf} (h : chk c = 0) {k : Nat} {t : Int} (hk : (k : Int) < c.cores) (ho : openB c k (turnZ c k t) t = true) : 0 ≤ turnZ c k t ∧ turnZ c k t < c.domains := by
  have R := right_of h
  unfold openB at ho
  simp only [Bool.and_eq_true, decide_eq_true_eq] at ho
  refine ⟨ho.1.2, ?_⟩
  have hi : k < c.turns.length := by have := R.tl; omega
  have hrow := grid_row R hi
  have e : c.turns.getD k [] = c.turns[k] := by simp [List.getD, hi]
  have hl := R.each _ (List.getElem_mem hi)
  rw [← e] at hl
  unfold turnZ rowOf
  obtain ⟨j, hj, hjl⟩ := mod_nat (a := t / c.quantum) (n := (c.turns.getD k []).length) (by omega)
  rw [hj, Int.toNat_natCast]
  unfold listB at hl
  simp only [Bool.and_eq_true, List.all_eq_true] at hl
  have hm : ∀ (l : List Int) (j : Nat), j < l.length → l.getD j 0 ∈ l := fun l j hj => by
    rw [List.getD_eq_getElem?_getD, List.getElem?_eq_getElem hj]
    exact List.getElem_mem hj
  have hm := hm _ j hjl
  have := hl.2 _ hm
  rw [within_iff] at this
  omega

set_option maxRecDepth 100000 in
set_option maxHeartbeats 6400000 in
theorem kstep_any (N : Cn) (X : XLoc) (m : Mh) (k : Nat) (served : Int) (w : World) (h : MachM w N X m) (ok : MhOk N m) (hk : k < N.nc) :
    Calls Tryz.prog 180 #[.pointer (some ⟨X.g, 0, none⟩), .int .i64 k, .int .i64 served] w fun e w' => e = .returned (.tuple #[]) ∧ ∃ X', MachM w' N X' (m.step N served k) ∧ Goes w w' X X' := by
  obtain ⟨n1, n2, n3, n4, n5, n6, n7, n8, n9, n10, n11, n12, n13, n14, n15⟩ := h.nums
  have c19 : w.cell? ⟨X.g, 19, none⟩ = some (.slice (some ⟨X.ck, 0, none⟩) N.nc N.nc) := by rw [h.row.cell]; rfl
  obtain ⟨k0, _, _⟩ := wk_at h.wks hk
  have HST : Hid (m.step N served k = if (m.wk k).busy = true then m.endFault N k else if (k : Int) = served then m else if openB N.c k (turnZ N.c k m.now) m.now = false then m else match m.next (turnZ N.c k m.now).toNat k with | none => m | some o => m.begin N (turnZ N.c k m.now).toNat k o) := rfl
  have HM : Hid _ := h
  have HOK : Hid _ := ok
  by_cases a1 : (m.wk k).busy = true
  · have HS2 : Hid _ := HST.out
    rw [if_pos a1] at HS2
    have hE := kendFault_any N X m k w h ok hk a1
    rw [a1] at k0
    clear n1 n2 n3 n4 n5 n6 n7 h ok a1 HST
    go_enter Tryz.func180, Tryz.ntmps180
    go_wp2_with fail
    refine hE.mono ?_; rintro e w1 ⟨rfl, X', hM1, hG1⟩
    go_wp2
    refine bodyPost_ret (results_none rfl _ _ _) rfl ?_
    exact ⟨rfl, X', by rw [HS2.out]; exact hM1, hG1⟩
  · have a1f : (m.wk k).busy = false := by simpa using a1
    rw [if_neg a1] at HST
    rw [a1f] at k0
    by_cases a2 : (k : Int) = served
    · rw [if_pos a2] at HST
      have a2b : ((k : Int) == served) = true := by simp [a2]
      clear n1 n2 n3 n4 n5 n6 n7 h ok a1 a1f a2
      go_enter Tryz.func180, Tryz.ntmps180
      go_wp2
      refine bodyPost_ret (results_none rfl _ _ _) rfl ?_
      exact ⟨rfl, X, by rw [HST.out]; exact HM.out, Goes.refl _ _⟩
    · rw [if_neg a2] at HST
      have a2b : ((k : Int) == served) = false := by simp [a2]
      have hrw := h.row
      have c0 : w.cell? ⟨X.g, 0, none⟩ = some (.int .i64 N.c.cores) := by rw [h.row.cell]; rfl
      have c1 : w.cell? ⟨X.g, 1, none⟩ = some (.int .i64 N.c.domains) := by rw [h.row.cell]; rfl
      have c2 : w.cell? ⟨X.g, 2, none⟩ = some (.int .i64 N.c.line) := by rw [h.row.cell]; rfl
      have c3 : w.cell? ⟨X.g, 3, none⟩ = some (.int .i64 N.c.priv) := by rw [h.row.cell]; rfl
      have c4 : w.cell? ⟨X.g, 4, none⟩ = some (.int .i64 N.c.shared) := by rw [h.row.cell]; rfl
      have c5 : w.cell? ⟨X.g, 5, none⟩ = some (.int .i64 N.c.near) := by rw [h.row.cell]; rfl
      have c6 : w.cell? ⟨X.g, 6, none⟩ = some (.int .i64 N.c.sets) := by rw [h.row.cell]; rfl
      have c7 : w.cell? ⟨X.g, 7, none⟩ = some (.slice X.s.wa X.s.wl X.s.wc) := by rw [h.row.cell]; rfl
      have c8 : w.cell? ⟨X.g, 8, none⟩ = some (.int .i64 N.c.slot) := by rw [h.row.cell]; rfl
      have c9 : w.cell? ⟨X.g, 9, none⟩ = some (.slice X.s.sa X.s.sl X.s.sc) := by rw [h.row.cell]; rfl
      have c10 : w.cell? ⟨X.g, 10, none⟩ = some (.slice X.s.ta X.s.tl X.s.tc) := by rw [h.row.cell]; rfl
      have c11 : w.cell? ⟨X.g, 11, none⟩ = some (.int .i64 N.c.quantum) := by rw [h.row.cell]; rfl
      have c12 : w.cell? ⟨X.g, 12, none⟩ = some (.int .i64 N.c.flush) := by rw [h.row.cell]; rfl
      have c13 : w.cell? ⟨X.g, 13, none⟩ = some (.int .i64 m.now) := by rw [h.row.cell]; rfl
      have hkc : (k : Int) < N.c.cores := by omega
      have hO : Calls Tryz.prog 166 #[cfgV N.c X.s, .int .i64 k, .int .i64 m.now] w.drew fun e w' => e = .returned (.tuple #[.int .i64 (turnZ N.c k m.now), .bool (openB N.c k (turnZ N.c k m.now) m.now)]) ∧ Below w.drew.heap.size w.drew w' := cowner_any N.c X.s k m.now _ (h.cfg.drew) h.right hkc h.now0 h.now1
      have htr := turn_range (t := m.now) h.right hkc
      have HTR : Hid _ := htr
      have HND : Hid _ := n2
      clear n1 n2 n3 n4 n5 n6 n7 h ok a1 a1f a2 htr hrw
      go_enter Tryz.func180, Tryz.ntmps180
      go_wp2_with fail
      go_cut [6, 7] (fun u v wx => u = .int .i64 (turnZ N.c k m.now) ∧ v = .bool (openB N.c k (turnZ N.c k m.now) m.now) ∧ Below w.heap.size w wx)
      case first =>
        go_region_with (go_at_call 166; refine hO.mono ?_; rintro e w1 ⟨rfl, hb1⟩)
        all_goals go_wp2_with fail
        all_goals go_meet
        all_goals exact ⟨rfl, rfl, (Below.refl w.heap.size w).drew.trans hb1⟩
      case rest =>
        obtain ⟨rfl, rfl, hb1⟩ := hcut
        have M1 := HM.out.below hb1 (Nat.le_refl _)
        clear c0 c1 c2 c3 c4 c5 c6 c7 c8 c9 c10 c11 c12 c13 c19 k0 hO
        rcases Bool.eq_false_or_eq_true (openB N.c k (turnZ N.c k m.now) m.now) with hop | hop
        · have htr := HTR.out hop
          rw [if_neg (by rw [hop]; simp)] at HST
          obtain ⟨d, hdz⟩ := Int.eq_ofNat_of_zero_le htr.1
          have hd : d < N.nd := by have := HND.out; omega
          rw [hdz, Int.toNat_natCast] at HST
          rw [hop, hdz]
          have hNx := knext_any N X m d k wc M1 hd hk (HOK.out.len d k) (Nat.le_trans (HOK.out.dn d k) (HOK.out.len d k))
          clear htr hop hdz
          go_wp2_with fail
          refine hNx.mono ?_; rintro e w2 ⟨rfl, hb2⟩
          have hb3 := below_step hb1 hb2 rfl
          have M2 := HM.out.below hb3 (Nat.le_refl _)
          have HG2 : Hid (Goes w w2 X X) := Goes.of_below hb3
          clear hNx M1
          rcases hnx : m.next d k with _ | o
          · rw [hnx] at HST
            have HM2 : Hid _ := M2
            clear M2
            go_wp2
            refine bodyPost_end (results_none rfl _ _ _) rfl ?_
            have hbA : Below w2.heap.size w2 (w2.alloc (.cells (opArr opZ) 113)) := (Below.refl _ _).alloc (Nat.le_refl _) _
            exact ⟨rfl, X, by rw [HST.out]; exact HM2.out.below hbA (Nat.le_refl _), HG2.out.trans (Goes.of_below hbA)⟩
          · rw [hnx] at HST
            have hbA : Below w2.heap.size w2 (w2.alloc (.cells (opArr o) 113)) := (Below.refl _ _).alloc (Nat.le_refl _) _
            have M3 := M2.below hbA (Nat.le_refl _)
            have hBg := kbegin_any finishC N X m d k o _ M3 HOK.out hd hk
            have HG3 : Hid (Goes w (w2.alloc (.cells (opArr o) 113)) X X) := HG2.out.trans (Goes.of_below hbA)
            obtain ⟨o1, o2, o3⟩ := o
            clear M2 M3 hbA
            go_wp2_with fail
            refine hBg.mono ?_; rintro e w3 ⟨rfl, X', hM3, hG3⟩
            go_wp2
            refine bodyPost_end (results_none rfl _ _ _) rfl ?_
            exact ⟨rfl, X', by rw [HST.out]; exact hM3, HG3.out.trans hG3⟩
        · rw [if_pos hop] at HST
          rw [hop]
          have HM1 : Hid _ := M1
          clear M1
          go_wp2
          refine bodyPost_ret (results_none rfl _ _ _) rfl ?_
          exact ⟨rfl, X, by rw [HST.out]; exact HM1.out, Goes.of_below hb1⟩
end Go.Proofs.YtcmcfafhllpojaaGreat
