/-
  KaseD, KaseE
-/
import Derived.Test.YtcmcfafhllpojabGreatClPackV
namespace Go.Proofs.YtcmcfafhllpojabGreat
open Go.RowKit

theorem cs_cells {w : World} {g : Nat} {x : Cs} {l : Cl} {t : TypeId} (h : Row w g (csL x l) t) :
    w.cell? ⟨g, 0, none⟩ = some (.int .i64 x.c.cores) ∧ w.cell? ⟨g, 1, none⟩ = some (.int .i64 x.c.domains) ∧ w.cell? ⟨g, 2, none⟩ = some (.int .i64 x.c.line) ∧ w.cell? ⟨g, 3, none⟩ = some (.int .i64 x.c.priv) ∧ w.cell? ⟨g, 4, none⟩ = some (.int .i64 x.c.shared) ∧ w.cell? ⟨g, 5, none⟩ = some (.int .i64 x.c.near) ∧ w.cell? ⟨g, 6, none⟩ = some (.int .i64 x.c.sets) ∧ w.cell? ⟨g, 7, none⟩ = some (.slice l.s.wa l.s.wl l.s.wc) ∧ w.cell? ⟨g, 8, none⟩ = some (.int .i64 x.c.slot) ∧ w.cell? ⟨g, 9, none⟩ = some (.slice l.s.sa l.s.sl l.s.sc) ∧ w.cell? ⟨g, 10, none⟩ = some (.slice l.s.ta l.s.tl l.s.tc) ∧ w.cell? ⟨g, 11, none⟩ = some (.int .i64 x.c.quantum) ∧ w.cell? ⟨g, 12, none⟩ = some (.int .i64 x.c.flush) :=
  ⟨h.cell 0, h.cell 1, h.cell 2, h.cell 3, h.cell 4, h.cell 5, h.cell 6, h.cell 7, h.cell 8, h.cell 9, h.cell 10, h.cell 11, h.cell 12⟩

theorem Tryz.sizeCase : (Tryz.prog.info? 33).map (fun i => i.size) = some 17 := by kernel_rfl
theorem size_case (x : Cs) (l : Cl) : (Tryz.prog.info? 33).map (·.size) = some (csL x l).toArray.size := by rw [show (csL x l).toArray.size = 17 by simp]; exact Tryz.sizeCase

set_option maxRecDepth 100000 in
set_option maxHeartbeats 6400000 in
theorem kmachine_good (x : Cs) (l : Cl) (w : World) (h : CaseAt w x l) (hz : chk x.c = 0) :
    Calls Tryz.prog 9 #[csV x l] w fun e w' => ∃ X, e = .returned (.tuple #[.pointer (some ⟨X.g, 0, none⟩), .bool true]) ∧ KSt w w' x l X (machK x) := by
  have hN := nm_of hz
  obtain ⟨nc, hnc⟩ : ∃ nc, x.c.cores.toNat = nc := ⟨_, rfl⟩
  obtain ⟨nd, hnd⟩ : ∃ nd, x.c.domains.toNat = nd := ⟨_, rfl⟩
  have ec : (nc : Int) = x.c.cores := by rw [← hnc]; exact hN.nc
  have ed : (nd : Int) = x.c.domains := by rw [← hnd]; exact hN.nd
  have R := right_of hz
  have hc3 : nc ≤ 3 := by have := R.c2; omega
  have hd4 : nd ≤ 4 := by have := R.d2; omega
  have HMK : Hid (machK x = mkM (opsK x nc nd 0) (ownK x.c x.own) (shK x.c x.com)) := by unfold Hid machK; rw [hnc, hnd]
  have hb0 : Below w.heap.size w (w.alloc (.cells (csA x l) 33)) := (Below.refl _ _).alloc (Nat.le_refl _) _
  have hR0 : Row (w.alloc (.cells (csA x l) 33)) w.heap.size (csL x l) 33 := heap_alloc_new w _
  have HR0 : Hid (Row (w.alloc (.cells (csA x l) 33)) w.heap.size (csL x l) 33) := hR0
  have hNw := wnew_good x.c l.s _ (h.below hb0 (Nat.le_refl _)).cfg hz
  have HB0 : Hid _ := hb0
  have HCA : Hid _ := h
  have hr1 : (chk x.c == 0) = true := by simp [hz]
  have HEC : Hid _ := ec
  have HED : Hid _ := ed
  have HOL : Hid _ := h.own.hlen
  have HOM : Hid (l.ol ≤ l.oc ∧ l.oc ≤ maxLen) := ⟨h.own.hle, h.own.hmax⟩
  have HML : Hid _ := h.com.hlen
  have HMM : Hid (l.ml ≤ l.mc ∧ l.mc ≤ maxLen) := ⟨h.com.hle, h.com.hmax⟩
  have HRI : Hid _ := R
  have HZ : Hid _ := hz
  clear hN hnc hnd hz hR0 hb0 R ec ed h
  go_enter Tryz.func9, Tryz.ntmps9
  go_wp2_with fail
  refine hNw.mono ?_; rintro e w1 ⟨X, rfl, hM, hX, hb1⟩
  have K1 : KSt w w1 x l X (mkM (fun _ _ => []) (fun _ _ => 0) (fun _ => 0)) := ⟨Row.below HR0.out hb1 (by simp), hM, fun b hb => by have := hX b hb; simp at this; omega, below_step HB0.out hb1 rfl⟩
  obtain ⟨x0, x1, x2, x3, x4, x5, x6, x7, x8, x9, x10, x11, x12⟩ := cs_cells K1.box
  have hRt := kright_any x.c l.s w1 (K1.cs HCA.out).cfg
  rw [hr1] at hRt
  have HK1 : Hid _ := K1
  clear hNw hM hX hb1 K1
  go_wp2_with fail
  refine hRt.mono ?_; rintro e w2 ⟨rfl, hb2⟩
  have K2 := HK1.out.below hb2
  rw [← opsK_start x nc] at K2
  have HK2 : Hid _ := K2
  clear hRt x0 x1 x2 x3 x4 x5 x6 x7 x8 x9 x10 x11 x12 K2 hb2 hr1
  go_wp2_with fail
  go_loopw [7] (fun u wr => ∃ (D : Nat) (X' : XLoc), D ≤ nd ∧ u = .int .i64 D ∧ X'.g = X.g ∧ KSt w wr x l X' (mkM (opsK x nc D 0) (fun _ _ => 0) (fun _ => 0))) (fun u _ => nd - (intOf u).toNat)
  case atStart => exact ⟨0, X, by omega, rfl, rfl, HK2.out⟩
  case round =>
    obtain ⟨D, X1, hD, rfl, hg, hk⟩ := hrel
    have HG : Hid _ := hg
    have HK : Hid _ := hk
    have y1 : wr.cell? ⟨w.heap.size, 1, none⟩ = some (.int .i64 nd) := by rw [HED.out]; exact hk.box.cell 1
    have lb := hk.box.lt
    clear hk hg
    by_cases hlt : D < nd
    · go_wp2_with fail
      go_loopw [8] (fun u wx => ∃ (K : Nat) (X' : XLoc), K ≤ nc ∧ u = .int .i64 K ∧ X'.g = X.g ∧ KSt w wx x l X' (mkM (opsK x nc D K) (fun _ _ => 0) (fun _ => 0))) (fun u _ => nc - (intOf u).toNat)
      case atStart => exact ⟨0, X1, by omega, rfl, HG.out, HK.out⟩
      case round =>
        obtain ⟨K, X2, hK, rfl, hg, hk⟩ := hrel
        have HG2 : Hid _ := hg
        have HKK : Hid _ := hk
        have y0 : wr.cell? ⟨w.heap.size, 0, none⟩ = some (.int .i64 nc) := by rw [HEC.out]; exact hk.box.cell 0
        have hrow := hk.box
        have lb2 := hk.box.lt
        by_cases hltK : K < nc
        · have hPr := kprogram_any x l D K nc wr (hk.cs HCA.out) HEC.out hc3 (by omega) (by omega)
          have HGK : Hid _ := give_k x nc D K (fun _ _ => 0) (fun _ => 0) hltK HEC.out (by rw [← HED.out]; omega)
          clear hk hg
          go_wp2_with (refine wpList_load_row (by rfl) 33 (.tmp 1) (by rfl) w.heap.size (by rfl) 33 (csL x l).toArray (0, 0) _ hrow Tryz.underlying33 (by rfl) (size_case x l) ?_)
          refine hPr.mono ?_; rintro e w3 ⟨sa, len, cap, rfl, hO, hb3⟩
          have K3 := HKK.out.below hb3
          have hGv := wGive_any (cnOf x.c) X2 _ D K sa len cap (progK x (D * nc + K)) w3 K3.mach hO
          rw [HGK.out.1, HGK.out.2, HG2.out] at hGv
          have HK3 : Hid _ := K3
          clear hPr K3 hO hb3 y0 hrow
          go_wp2_with fail
          refine hGv.mono ?_; rintro e w4 ⟨rfl, X4, hM4, hG4⟩
          have K4 := HK3.out.goes hG4 hM4
          have HK4 : Hid _ := K4
          have HG4 : Hid (X4.g = X.g) := hG4.g.trans HG2.out
          clear hGv hM4 hG4 K4
          go_wp2_with fail
          go_roundw
          case rel => exact ⟨K + 1, X4, by omega, by go_num, HG4.out, HK4.out⟩
          case measure => simp [intOf]; omega
        · have eK : K = nc := by omega
          subst eK
          rw [opsK_row] at hk
          have HK5 : Hid _ := hk
          clear hk hg hrow
          go_wp2_with fail
          go_roundw
          case rel => exact ⟨D + 1, X2, by omega, by go_num, HG2.out, HK5.out⟩
          case measure => simp [intOf]; omega
    · have eD : D = nd := by omega
      subst eD
      go_wp2_with fail
      go_loopw [10] (fun u wr => ∃ (i : Nat) (X' : XLoc), i ≤ l.ol ∧ u = .int .i64 i ∧ X'.g = X.g ∧ KSt w wr x l X' (mkM (opsK x nc D 0) (ownK x.c (x.own.take i)) (fun _ => 0))) (fun u _ => l.ol - (intOf u).toNat)
      case atStart => exact ⟨0, X1, by omega, rfl, HG.out, HK.out⟩
      case round =>
        obtain ⟨i, X2, hi, rfl, hg, hk⟩ := hrel
        have HG2 : Hid _ := hg
        have HKK : Hid _ := hk
        have hom := HOM.out
        unfold Hid maxLen at hom
        have lb2 := hk.box.lt
        by_cases hlti : i < l.ol
        · obtain ⟨b, off, hoa, e1, e2, e3⟩ := (hk.cs HCA.out).own.hat i hlti
          have y14 : wr.cell? ⟨w.heap.size, 14, none⟩ = some (.slice (some ⟨b, off, none⟩) l.ol l.oc) := by rw [← hoa]; exact hk.box.cell 14
          have lbb := cell_lt e1
          have HTK : Hid _ := ownK_take x.c x.own (i := i) (by rw [HOL.out]; exact hlti)
          obtain ⟨o, ho⟩ : ∃ o, x.own.getD i opZ = o := ⟨_, rfl⟩
          rw [ho] at e1 e2 e3 HTK
          obtain ⟨od, oa, ov⟩ := o
          simp only at e1 e2 e3 lbb
          have hbA : Below wr.heap.size wr (wr.alloc (.cells #[.int .i64 od, .int .i64 oa, .int .i64 ov] 67)) := (Below.refl _ _).alloc (Nat.le_refl _) _
          have K3 := hk.below hbA
          have HF : Hid _ := fill_k x.c (opsK x nc D 0) (ownK x.c (x.own.take i)) (fun _ => 0) (od, oa, ov)
          have hFl := wFill_any (cnOf x.c) X2 _ od oa ov _ K3.mach
          rw [HF.out.2, HG2.out] at hFl
          have z0 : (wr.alloc (.cells #[.int .i64 od, .int .i64 oa, .int .i64 ov] 67)).cell? ⟨w.heap.size, 1, none⟩ = some (.int .i64 x.c.domains) := K3.box.cell 1
          have HK3 : Hid _ := K3
          have HRC : Hid (Row (wr.alloc (.cells #[.int .i64 od, .int .i64 oa, .int .i64 ov] 67)) wr.heap.size [.int .i64 od, .int .i64 oa, .int .i64 ov] 67) := heap_alloc_new wr _
          have hcases := fill_cases x.c (mkM (opsK x nc D 0) (ownK x.c (x.own.take i)) (fun _ => 0)) rfl od oa
          have HLO : Hid _ := hom
          clear hk hg K3 hbA ho hoa z0
          rcases hcases with ⟨b1, b2, b3, b4, he⟩ | ⟨b1, he⟩ | ⟨b1, b2, he⟩ | ⟨b1, b2, b3, he⟩ | ⟨b1, b2, b3, b4, he⟩
          all_goals
            rw [he] at hFl
            clear he
            go_wp2_with fail
            refine hFl.mono ?_; rintro e w4 ⟨rfl, hM4, hG4⟩
            have K4 := HK3.out.goes hG4 hM4
            have r4 : Row w4 wr.heap.size [.int .i64 od, .int .i64 oa, .int .i64 ov] 67 := Row.same HRC.out (hG4.tch.block _ (by simp) (fun hm => by have := HK3.out.mach.labs.lt _ hm; have := HKK.out.mach.labs.lt _ hm; omega))
            have q0 : w4.cell? ⟨wr.heap.size, 0, none⟩ = some (.int .i64 od) := r4.cell 0
            have q1 : w4.cell? ⟨wr.heap.size, 1, none⟩ = some (.int .i64 oa) := r4.cell 1
            have z1 : w4.cell? ⟨w.heap.size, 1, none⟩ = some (.int .i64 x.c.domains) := K4.box.cell 1
            have z3 : w4.cell? ⟨w.heap.size, 3, none⟩ = some (.int .i64 x.c.priv) := K4.box.cell 3
            have lr := r4.lt
            have lb4 := K4.box.lt
            have HK4 : Hid (KSt w w4 x l X2 (mkM (opsK x nc D 0) (ownK x.c (x.own.take (i + 1))) (fun _ => 0))) := by unfold Hid; rw [HTK.out]; exact K4
            clear hFl hM4 hG4 K4 r4 y14 e1 e2 e3
            go_wp2_with fail
            go_roundw
          all_goals try (case rel => exact ⟨i + 1, X2, by omega, by go_num, HG2.out, HK4.out⟩)
          all_goals try (case measure => simp [intOf]; omega)
        · have y14 : wr.cell? ⟨w.heap.size, 14, none⟩ = some (.slice l.oa l.ol l.oc) := hk.box.cell 14
          have ht : x.own.take i = x.own := List.take_of_length_le (by rw [HOL.out]; omega)
          rw [ht] at hk
          have HK5 : Hid _ := hk
          clear hk hg ht
          go_wp2_with fail
          go_loopw [13] (fun u wr => ∃ (i : Nat) (X' : XLoc), i ≤ l.ml ∧ u = .int .i64 i ∧ X'.g = X.g ∧ KSt w wr x l X' (mkM (opsK x nc D 0) (ownK x.c x.own) (shK x.c (x.com.take i)))) (fun u _ => l.ml - (intOf u).toNat)
          case atStart => exact ⟨0, X2, by omega, rfl, HG2.out, HK5.out⟩
          case round =>
            obtain ⟨n, X3, hn, rfl, hg, hk⟩ := hrel
            have HG3 : Hid _ := hg
            have HKN : Hid _ := hk
            have hmm := HMM.out
            unfold Hid maxLen at hmm
            have lb3 := hk.box.lt
            by_cases hltn : n < l.ml
            · obtain ⟨b, off, hoa, e1, e2, e3⟩ := (hk.cs HCA.out).com.hat n hltn
              have y15 : wr.cell? ⟨w.heap.size, 15, none⟩ = some (.slice (some ⟨b, off, none⟩) l.ml l.mc) := by rw [← hoa]; exact hk.box.cell 15
              have lbb := cell_lt e1
              have HTK : Hid _ := shK_take x.c x.com (i := n) (by rw [HML.out]; exact hltn)
              obtain ⟨o, ho⟩ : ∃ o, x.com.getD n opZ = o := ⟨_, rfl⟩
              rw [ho] at e1 e2 e3 HTK
              obtain ⟨od, oa, ov⟩ := o
              simp only at e1 e2 e3 lbb
              have hbA : Below wr.heap.size wr (wr.alloc (.cells #[.int .i64 od, .int .i64 oa, .int .i64 ov] 67)) := (Below.refl _ _).alloc (Nat.le_refl _) _
              have K3 := hk.below hbA
              have HF : Hid _ := share_k x.c (opsK x nc D 0) (ownK x.c x.own) (shK x.c (x.com.take n)) (od, oa, ov)
              have hFl := wShare_any (cnOf x.c) X3 _ oa ov _ K3.mach
              rw [HF.out.2, HG3.out] at hFl
              have HK3 : Hid _ := K3
              have HRC : Hid (Row (wr.alloc (.cells #[.int .i64 od, .int .i64 oa, .int .i64 ov] 67)) wr.heap.size [.int .i64 od, .int .i64 oa, .int .i64 ov] 67) := heap_alloc_new wr _
              have hcases := share_cases x.c (mkM (opsK x nc D 0) (ownK x.c x.own) (shK x.c (x.com.take n))) rfl oa
              have HLO : Hid _ := hmm
              clear hk hg K3 hbA ho hoa
              rcases hcases with ⟨b1, b2, he⟩ | ⟨b1, he⟩ | ⟨b1, b2, he⟩
              all_goals
                rw [he] at hFl
                clear he
                go_wp2_with fail
                refine hFl.mono ?_; rintro e w4 ⟨rfl, hM4, hG4⟩
                have K4 := HK3.out.goes hG4 hM4
                have r4 : Row w4 wr.heap.size [.int .i64 od, .int .i64 oa, .int .i64 ov] 67 := Row.same HRC.out (hG4.tch.block _ (by simp) (fun hm => by have := HKN.out.mach.labs.lt _ hm; omega))
                have q1 : w4.cell? ⟨wr.heap.size, 1, none⟩ = some (.int .i64 oa) := r4.cell 1
                have z4 : w4.cell? ⟨w.heap.size, 4, none⟩ = some (.int .i64 x.c.shared) := K4.box.cell 4
                have lr := r4.lt
                have lb4 := K4.box.lt
                have HK4 : Hid (KSt w w4 x l X3 (mkM (opsK x nc D 0) (ownK x.c x.own) (shK x.c (x.com.take (n + 1))))) := by unfold Hid; rw [HTK.out]; exact K4
                clear hFl hM4 hG4 K4 r4 y15 e1 e2 e3
                go_wp2_with fail
                go_roundw
              all_goals try (case rel => exact ⟨n + 1, X3, by omega, by go_num, HG3.out, HK4.out⟩)
              all_goals try (case measure => simp [intOf]; omega)
            · have y15 : wr.cell? ⟨w.heap.size, 15, none⟩ = some (.slice l.ma l.ml l.mc) := hk.box.cell 15
              have ht : x.com.take n = x.com := List.take_of_length_le (by rw [HML.out]; omega)
              rw [ht] at hk
              have HK6 : Hid _ := hk
              clear hk hg ht
              go_wp2_with fail
              go_ret2
              refine ⟨X3, ?_, by rw [HMK.out]; exact HK6.out⟩
              rw [HG3.out]
              rfl

set_option maxRecDepth 100000 in
set_option maxHeartbeats 3200000 in
theorem kmachine_bad (x : Cs) (l : Cl) (w : World) (h : CaseAt w x l) (hz : chk x.c ≠ 0) :
    Calls Tryz.prog 9 #[csV x l] w fun e w' => e = .returned (.tuple #[.pointer none, .bool true]) ∧ Below w.heap.size w w' := by
  have hb0 : Below w.heap.size w (w.alloc (.cells (csA x l) 33)) := (Below.refl _ _).alloc (Nat.le_refl _) _
  have hR0 : Row (w.alloc (.cells (csA x l) 33)) w.heap.size (csL x l) 33 := heap_alloc_new w _
  have HR0 : Hid (Row (w.alloc (.cells (csA x l) 33)) w.heap.size (csL x l) 33) := hR0
  have hNw := wnew_bad x.c l.s _ (h.below hb0 (Nat.le_refl _)).cfg hz
  have HB0 : Hid _ := hb0
  have HCA : Hid _ := h
  have hr1 : (chk x.c == 0) = false := by simp [hz]
  have hr2 : (chk x.c != 0) = true := by simp [hz]
  clear hz hR0 hb0 h
  go_enter Tryz.func9, Tryz.ntmps9
  go_wp2_with fail
  refine hNw.mono ?_; rintro e w1 ⟨rfl, hb1⟩
  have R1 : Row w1 w.heap.size (csL x l) 33 := Row.below HR0.out hb1 (by simp)
  have B1 := below_step HB0.out hb1 rfl
  obtain ⟨x0, x1, x2, x3, x4, x5, x6, x7, x8, x9, x10, x11, x12⟩ := cs_cells R1
  have hRt := kright_any x.c l.s w1 (HCA.out.below B1 (Nat.le_refl _)).cfg
  rw [hr1] at hRt
  have HB1 : Hid _ := B1
  clear hNw R1 B1 hb1
  go_wp2_with fail
  refine hRt.mono ?_; rintro e w2 ⟨rfl, hb2⟩
  have B2 := below_step HB1.out hb2 rfl
  have HB2 : Hid _ := B2
  clear hRt x0 x1 x2 x3 x4 x5 x6 x7 x8 x9 x10 x11 x12 B2 hb2
  go_wp2_with fail
  go_ret2
  exact ⟨rfl, HB2.out⟩
end Go.Proofs.YtcmcfafhllpojabGreat

namespace Go.Proofs.YtcmcfafhllpojabGreat
open Go.RowKit

/-- The machine of a case, while a law runs that began in the world w. -/
structure KCtx (w wr : World) (x : Cs) (X : XLoc) (m : Mh) : Prop where
  mach : MachM wr (cnOf x.c) X m
  mine : ∀ b, X.mine b → w.heap.size ≤ b
  bel : Below w.heap.size w wr
theorem KCtx.goes {w wr wr' : World} {x : Cs} {X X' : XLoc} {m m' : Mh} (h : KCtx w wr x X m) (hg : Goes wr wr' X X') (hM : MachM wr' (cnOf x.c) X' m') : KCtx w wr' x X' m' := by
  have hs := h.bel.size
  refine ⟨hM, fun b hb => ?_, h.bel.trans (hg.tch.below _ hs h.mine)⟩
  by_cases c : b < wr.heap.size
  · exact h.mine b (hg.lab b c hb)
  · omega
theorem KCtx.below {w wr wr' : World} {x : Cs} {X : XLoc} {m : Mh} (h : KCtx w wr x X m) (hb : Below wr.heap.size wr wr') : KCtx w wr' x X m :=
  ⟨h.mach.below hb (Nat.le_refl _), h.mine, below_step h.bel hb rfl⟩
theorem KSt.ctx {w wr : World} {x : Cs} {l : Cl} {X : XLoc} {m : Mh} (h : KSt w wr x l X m) : KCtx w wr x X m := ⟨h.mach, fun b hb => by have := h.mine b hb; omega, h.bel⟩

theorem runs_zero (N : Cn) (m : Mh) : Mh.runs N 0 m = m := rfl

/-- A trace as it is told. -/
theorem trace_at {w : World} {N : Cn} {m : Mh} {d : Nat} (hd : (d : Int) < N.c.domains) (hl : (m.tr d).length ≤ 192) : EvsAt (traceW N m d w) (some ⟨w.heap.size, 0, none⟩) (m.tr d).length (m.tr d).length (m.tr d) ∧ traceV N m d w.heap.size = .slice (some ⟨w.heap.size, 0, none⟩) (m.tr d).length (m.tr d).length ∧ traceME N d = 0 ∧ Below w.heap.size w (traceW N m d w) := by
  have hno : ¬ ((d : Int) < 0 ∨ N.c.domains ≤ (d : Int)) := by omega
  have e1 : traceW N m d w = w.alloc (.cells ((m.tr d).flatMap eventL).toArray 112) := by
    unfold traceW; rw [if_neg hno, Int.toNat_natCast]
  refine ⟨?_, by unfold traceV; rw [if_neg hno, Int.toNat_natCast], by unfold traceME; rw [if_neg hno], by rw [e1]; exact (Below.refl _ _).alloc (Nat.le_refl _) _⟩
  rw [e1]
  have hrow : Row (w.alloc (.cells ((m.tr d).flatMap eventL).toArray 112)) w.heap.size ((m.tr d).flatMap eventL) 112 := heap_alloc_new w _
  have flat : ∀ (es : List Ev) (i j : Nat), i < es.length → j < 6 → (es.flatMap eventL)[i * 6 + j]? = (eventL (es.getD i evZ))[j]? := by
    intro es
    induction es with
    | nil => intro i j hi; simp at hi
    | cons e es ih =>
      intro i j hi hj
      rw [List.flatMap_cons]
      have hl6 : (eventL e).length = 6 := rfl
      cases i with
      | zero =>
        rw [List.getElem?_append_left (by rw [hl6]; omega)]
        simp
      | succ i =>
        rw [List.getElem?_append_right (by rw [hl6]; omega), hl6, show (i + 1) * 6 + j - 6 = i * 6 + j by omega, ih i j (by simpa using hi) hj]
        simp
  refine ⟨rfl, Nat.le_refl _, by unfold maxLen; omega, fun i hi => ⟨w.heap.size, 0, rfl, ?_⟩⟩
  have c := fun j (hj : j < 6) => (hrow.cell (i * 6 + j)).trans (flat (m.tr d) i j hi hj)
  refine ⟨?_, ?_, ?_, ?_, ?_, ?_⟩
  · rw [Nat.zero_add]; exact c 0 (by omega)
  · rw [Nat.zero_add]; exact c 1 (by omega)
  · rw [Nat.zero_add]; exact c 2 (by omega)
  · rw [Nat.zero_add]; exact c 3 (by omega)
  · rw [Nat.zero_add]; exact c 4 (by omega)
  · rw [Nat.zero_add]; exact c 5 (by omega)

end Go.Proofs.YtcmcfafhllpojabGreat
