/-
  KohE, KohJ
-/
import Derived.Test.YtcmcfafhllpojabGreatClPackAR
import Derived.Test.YtcmcfafhllpojabGreatClKohF
import Derived.Test.YtcmcfafhllpojabGreatClPackAO
import Derived.Test.YtcmcfafhllpojabGreatClKohI
import Derived.Test.YtcmcfafhllpojabGreatClPackZ
namespace Go.Proofs.YtcmcfafhllpojabGreat
open Go.RowKit

set_option maxRecDepth 100000 in
set_option maxHeartbeats 6400000 in
theorem knearRight_any (x : Cs) (l : Cl) (hz : chk x.c = 0) (gS nc nn nd : Nat) (nr : Nat → Nat → Cp) (len : Nat → Nat) (ln : Nat → Nat → Int) (mk : Nat → Nat → Bool) (t : Int) (w : World) (hC : CfgAt w x.c l.s) (h : SightM w gS nc nn nd nr len ln mk) (hnc : (nc : Int) = x.c.cores) (hnn : (nn : Int) = x.c.near) (hl : ∀ d, d < nd → len d ≤ 192) (tm : t ≤ 1000000)
    (hs : ∀ k p, k < nc → p < nn → PlaceR x.c k p nd t (nr k p) len ln mk) (h1 : ∀ a b p, a < nc → b < nc → a ≠ b → p < nn → SingleR (nr a p) (nr b p)) :
    Calls Tryz.prog 27 #[csV x l, .pointer (some ⟨gS, 0, none⟩), .int .i64 t] w fun e w' => e = .returned (.bool true) ∧ Below w.heap.size w w' := by
  have hb0 : Below w.heap.size w (w.alloc (.cells (csA x l) 33)) := (Below.refl _ _).alloc (Nat.le_refl _) _
  have hR0 : Row (w.alloc (.cells (csA x l) 33)) w.heap.size (csL x l) 33 := heap_alloc_new w _
  have HR0 : Hid (Row (w.alloc (.cells (csA x l) 33)) w.heap.size (csL x l) 33) := hR0
  have HB0 : Hid _ := hb0
  have R := right_of hz
  have sb := shape_bounds (chk_zero hz).1
  have hc3 : nc ≤ 3 := by omega
  have hn4 : nn ≤ 4 := by omega
  have HNC : Hid _ := hnc
  have HNN : Hid _ := hnn
  have HZ : Hid _ := hz
  have HC : Hid _ := hC
  have HS : Hid _ := h
  have HL : Hid _ := hl
  have HP : Hid _ := hs
  have H1 : Hid _ := h1
  clear hz hC h hnc hnn hl hs h1 R sb hb0 hR0
  go_enter Tryz.func27, Tryz.ntmps27
  go_wp2_with fail
  go_loopw [7] (fun u wr => ∃ (K : Nat), K ≤ nc ∧ u = .int .i64 K ∧ Row wr w.heap.size (csL x l) 33 ∧ Below w.heap.size w wr) (fun u _ => nc - (intOf u).toNat)
  case atStart => exact ⟨0, by omega, rfl, HR0.out, HB0.out⟩
  case round =>
    obtain ⟨K, hK, rfl, r, hb⟩ := hrel
    have y0 : wr.cell? ⟨w.heap.size, 0, none⟩ = some (.int .i64 nc) := by rw [HNC.out]; exact r.cell 0
    have lr := r.lt
    have HR : Hid (Row wr w.heap.size (csL x l) 33) := r
    have HB : Hid _ := hb
    clear r hb
    by_cases hlt : K < nc
    · go_wp2_with fail
      go_loopw [8] (fun u wr => ∃ (P : Nat), P ≤ nn ∧ u = .int .i64 P ∧ Row wr w.heap.size (csL x l) 33 ∧ Below w.heap.size w wr) (fun u _ => nn - (intOf u).toNat)
      case atStart => exact ⟨0, by omega, rfl, HR.out, HB.out⟩
      case round =>
        obtain ⟨P, hP, rfl, r, hb⟩ := hrel
        have y5 : wr.cell? ⟨w.heap.size, 5, none⟩ = some (.int .i64 nn) := by rw [HNN.out]; exact r.cell 5
        have lr := r.lt
        have HRP : Hid (Row wr w.heap.size (csL x l) 33) := r
        have HBP : Hid _ := hb
        by_cases hlp : P < nn
        · have hCo := kcopyRight_any x l HZ.out gS nc nn nd nr len ln mk K P t wr (HC.out.below hb (Nat.le_refl _)) (HS.out.below hb (Nat.le_refl _)) hlt (by rw [← HNC.out]; omega) hlp HL.out tm (HP.out K P hlt hlp)
          have hrow := r
          clear r hb
          go_wp2_with (refine wpList_load_row (by rfl) 33 (.tmp 3) (by rfl) w.heap.size (by rfl) 33 (csL x l).toArray (0, 0) _ hrow Tryz.underlying33 (by rfl) (size_case x l) ?_)
          refine hCo.mono ?_; rintro e w1 ⟨rfl, hb1⟩
          have HB1 : Hid (Below w.heap.size w w1) := below_step HBP.out hb1 rfl
          have HR1 : Hid (Row w1 w.heap.size (csL x l) 33) := Row.below HRP.out hb1 lr
          clear hCo hrow hb1 y5 lr
          go_wp2_with fail
          go_loopw [9, 10] (fun o u wr => ∃ (I : Nat), I ≤ K ∧ o = .bool true ∧ u = .int .i64 I ∧ Row wr w.heap.size (csL x l) 33 ∧ Below w.heap.size w wr) (fun _ u _ => K - (intOf u).toNat)
          case atStart => exact ⟨0, by omega, rfl, rfl, HR1.out, HB1.out⟩
          case round =>
            obtain ⟨I, hI, rfl, rfl, r, hb⟩ := hrel
            have HRI : Hid (Row wr w.heap.size (csL x l) 33) := r
            have HBI : Hid _ := hb
            by_cases hli : I < K
            · have hSi := ksingle_any gS nc nn nd nr len ln mk I K P wr (HS.out.below hb (Nat.le_refl _)) (by omega) hlt hlp (H1.out I K P (by omega) hlt (by omega) hlp)
              clear r hb
              go_wp2_with fail
              refine hSi.mono ?_; rintro e w2 ⟨rfl, hb2⟩
              have HB2 : Hid (Below w.heap.size w w2) := below_step HBI.out hb2 rfl
              have HR2 : Hid (Row w2 w.heap.size (csL x l) 33) := Row.below HRI.out hb2 HRI.out.lt
              clear hSi hb2
              go_wp2_with fail
              go_roundw
              case rel => exact ⟨I + 1, by omega, rfl, by go_num, HR2.out, HB2.out⟩
              case measure => simp [intOf]; omega
            · clear r hb
              go_wp2_with fail
              go_roundw
              case rel => exact ⟨P + 1, by omega, by go_num, HRI.out, HBI.out⟩
              case measure => simp [intOf]; omega
        · clear r hb
          go_wp2_with fail
          go_roundw
          case rel => exact ⟨K + 1, by omega, by go_num, HRP.out, HBP.out⟩
          case measure => simp [intOf]; omega
    · go_wp2
      go_ret
      exact ⟨rfl, HB.out⟩
end Go.Proofs.YtcmcfafhllpojabGreat

namespace Go.Proofs.YtcmcfafhllpojabGreat
open Go.RowKit

set_option maxRecDepth 100000 in
set_option maxHeartbeats 6400000 in
theorem kcoherent_any (x : Cs) (l : Cl) (hz : chk x.c = 0) (X : XLoc) (T : Nat) (hT : T ≤ 10000) (w : World) (hCA : CaseAt w x l) (hM : MachM w (cnOf x.c) X (Mh.runs (cnOf x.c) T (machK x))) :
    Calls Tryz.prog 10 #[csV x l, .pointer (some ⟨X.g, 0, none⟩), .int .i64 T] w fun e w' => e = .returned (.bool true) ∧ Below w.heap.size w w' := by
  have hN := nm_of hz
  have hb0 : Below w.heap.size w (w.alloc (.cells (csA x l) 33)) := (Below.refl _ _).alloc (Nat.le_refl _) _
  have hR0 : Row (w.alloc (.cells (csA x l) 33)) w.heap.size (csL x l) 33 := heap_alloc_new w _
  have hsz0 : (w.alloc (.cells (csA x l) 33)).heap.size = w.heap.size + 1 := by simp
  obtain ⟨W0, hW0⟩ : ∃ W0, w.alloc (.cells (csA x l) 33) = W0 := ⟨_, rfl⟩
  have hrow0 := hR0
  rw [hW0] at hb0 hR0 hsz0
  have HW0 : Hid _ := hW0
  have HB0 : Hid _ := hb0
  have HR0 : Hid (Row W0 w.heap.size (csL x l) 33) := hR0
  have HSZ : Hid _ := hsz0
  have hSe := ksees_any x l (cnOf x.c) X _ W0 (hCA.cfg.below hb0 (Nat.le_refl _)) (hM.below hb0 (Nat.le_refl _)) hN.nc hN.nn hN.nd hN.ns hN.wn
  have HLE : Hid (∀ d, d < (cnOf x.c).nd → lenK x d ≤ 192) := fun d hd => by
    have F := hM.far d hd
    have := Nat.mul_le_mul F.n1 F.w1
    unfold lenK
    omega
  have HW1 : Hid (∀ d, d < (cnOf x.c).nd → 0 < (cnOf x.c).wn d) := fun d hd => (hM.far d hd).w0
  obtain ⟨nd, hnd⟩ : ∃ nd, (cnOf x.c).nd = nd := ⟨_, rfl⟩
  have HND : Hid ((nd : Int) = x.c.domains) := by unfold Hid; rw [← hnd]; exact hN.nd
  have hd4 : nd ≤ 4 := by have := (right_of hz).d2; have := HND.out; omega
  have HNE : Hid _ := hnd
  have HN : Hid _ := hN
  have HZ : Hid _ := hz
  have HCA : Hid _ := hCA
  have HM : Hid _ := hM
  have hwt : IntKind.i64.wrap ((T : Int) - 1) = (T : Int) - 1 := by rw [IntKind.wrap_i64]; omega
  clear hN hb0 hR0 hsz0 hW0 hz hCA hM hnd
  go_enter Tryz.func10, Tryz.ntmps10
  go_wp2_with (refine wpList_load_row (by rfl) 33 (.tmp 3) (by rfl) w.heap.size (by rfl) 33 (csL x l).toArray (0, 0) _ hrow0 Tryz.underlying33 (by rfl) (size_case x l) ?_)
  rw [HW0.out]
  refine hSe.mono ?_; rintro e w1 ⟨gS, rfl, hS, hb1⟩
  have B1 : Below w.heap.size w w1 := below_step HB0.out hb1 rfl
  have R1 : Row w1 w.heap.size (csL x l) 33 := Row.below HR0.out hb1 (by have := HSZ.out; omega)
  have S1 : SightM w1 gS (cnOf x.c).nc (cnOf x.c).nn (cnOf x.c).nd (Mh.runs (cnOf x.c) T (machK x)).nr (lenK x) (lnK x T) (mkK x T) := hS
  have hNr := knearRight_any x l HZ.out gS (cnOf x.c).nc (cnOf x.c).nn (cnOf x.c).nd _ (lenK x) (lnK x T) (mkK x T) ((T : Int) - 1) w1 (HCA.out.cfg.below B1 (Nat.le_refl _)) S1 HN.out.nc HN.out.nn HLE.out (by omega)
    (fun k p hk _ => place_rightK x HZ.out T hT k p hk) (fun a b p ha hb hab _ => single_rightK x HZ.out T hT a b p ha hb hab)
  have hrow := R1
  have HB1 : Hid _ := B1
  have HR1 : Hid (Row w1 w.heap.size (csL x l) 33) := R1
  have HS1 : Hid _ := S1
  clear hSe hrow0 hS hb1 B1 R1 S1
  go_wp2_with (refine wpList_load_row (by rfl) 33 (.tmp 3) (by rfl) w.heap.size (by rfl) 33 (csL x l).toArray (0, 0) _ hrow Tryz.underlying33 (by rfl) (size_case x l) ?_)
  refine hNr.mono ?_; rintro e w2 ⟨rfl, hb2⟩
  have HB2 : Hid (Below w.heap.size w w2) := below_step HB1.out hb2 rfl
  have HR2 : Hid (Row w2 w.heap.size (csL x l) 33) := Row.below HR1.out hb2 HR1.out.lt
  have HS2 : Hid _ := HS1.out.below hb2 (Nat.le_refl _)
  have hS2 : w.heap.size ≤ w2.heap.size := HB2.out.size
  clear hNr hrow hb2
  go_wp2_with fail
  go_loopw [8, 9] (fun o u wr => ∃ (D : Nat), D ≤ nd ∧ o = .bool true ∧ u = .int .i64 D ∧ Below w2.heap.size w2 wr) (fun _ u _ => nd - (intOf u).toNat)
  case atStart => exact ⟨0, by omega, rfl, rfl, Below.refl _ _⟩
  case round =>
    obtain ⟨D, hD, rfl, rfl, hb⟩ := hrel
    have r : Row wr w.heap.size (csL x l) 33 := Row.below HR2.out hb HR2.out.lt
    have y1 : wr.cell? ⟨w.heap.size, 1, none⟩ = some (.int .i64 nd) := by rw [HND.out]; exact r.cell 1
    have lr := r.lt
    have HB : Hid _ := hb
    by_cases hlt : D < nd
    · have S := HS2.out.below hb (Nat.le_refl _)
      have hdn : D < (cnOf x.c).nd := by rw [HNE.out]; exact hlt
      have hdd : (D : Int) < x.c.domains := by rw [← HND.out]; omega
      have hFa := kfarRight_any x l HZ.out gS (cnOf x.c).nc (cnOf x.c).nn (cnOf x.c).nd _ (lenK x) (lnK x T) (mkK x T) D (cnOf x.c).ns ((cnOf x.c).wn D) wr S hdn HN.out.ns rfl (HLE.out D hdn) (HW1.out D hdn) (fun i hi => block_rightK x HZ.out D hdd T hT i hi)
      have hrow := r
      have HRR : Hid (Row wr w.heap.size (csL x l) 33) := r
      clear hb r S
      go_wp2_with (refine wpList_load_row (by rfl) 33 (.tmp 3) (by rfl) w.heap.size (by rfl) 33 (csL x l).toArray (0, 0) _ hrow Tryz.underlying33 (by rfl) (size_case x l) ?_)
      refine hFa.mono ?_; rintro e w3 ⟨rfl, hb3⟩
      have B3 : Below w2.heap.size w2 w3 := below_step HB.out hb3 rfl
      have R3 : Row w3 w.heap.size (csL x l) 33 := Row.below HRR.out hb3 HRR.out.lt
      have Bw : Below w.heap.size w w3 := HB2.out.trans (B3.mono hS2)
      have hSt := kstored_any x l HZ.out X T hT gS (cnOf x.c).nc (cnOf x.c).nn (cnOf x.c).nd _ D w3 (HCA.out.below Bw (Nat.le_refl _)) (HM.out.below Bw (Nat.le_refl _)) (HS2.out.below B3 (Nat.le_refl _)) hdd hdn (HLE.out D hdn)
      have hrow3 := R3
      have HB3 : Hid _ := B3
      clear hFa hrow hb3 B3 R3 Bw y1
      go_wp2_with (refine wpList_load_row (by rfl) 33 (.tmp 3) (by rfl) w.heap.size (by rfl) 33 (csL x l).toArray (0, 0) _ hrow3 Tryz.underlying33 (by rfl) (size_case x l) ?_)
      refine hSt.mono ?_; rintro e w4 ⟨rfl, hb4⟩
      have HB4 : Hid (Below w2.heap.size w2 w4) := below_step HB3.out hb4 rfl
      clear hSt hrow3 hb4
      go_wp2_with fail
      go_roundw
      case rel => exact ⟨D + 1, by omega, rfl, by go_num, HB4.out⟩
      case measure => simp [intOf]; omega
    · clear hb r
      go_wp2
      go_ret
      exact ⟨rfl, HB2.out.trans (HB.out.mono hS2)⟩

set_option maxRecDepth 100000 in
set_option maxHeartbeats 6400000 in
theorem coherent_any (x : Cs) (l : Cl) (w : World) (h : CaseAt w x l) (hrl : x.runs.length * 8 ≤ 140737488351232) :
    Calls Tryz.prog 5 #[csV x l] w fun e w' => e = .returned (.bool true) ∧ Below w.heap.size w w' := by
  have hb0 : Below w.heap.size w (w.alloc (.cells (csA x l) 33)) := (Below.refl _ _).alloc (Nat.le_refl _) _
  have hR0 : Row (w.alloc (.cells (csA x l) 33)) w.heap.size (csL x l) 33 := heap_alloc_new w _
  have h0 := h.below hb0 (Nat.le_refl _)
  have hs0 : (w.alloc (.cells (csA x l) 33)).heap.size = w.heap.size + 1 := by simp
  have HR0 : Hid (Row (w.alloc (.cells (csA x l) 33)) w.heap.size (csL x l) 33) := hR0
  have HB0 : Hid _ := hb0
  by_cases hz : chk x.c = 0
  · have hMc := kmachine_good x l _ h0 hz
    have HZ : Hid _ := hz
    obtain ⟨W0, hW0⟩ : ∃ W0, w.alloc (.cells (csA x l) 33) = W0 := ⟨_, rfl⟩
    have HW0 : Hid _ := hW0
    rw [hW0] at HR0 HB0 h0 hs0 hMc
    have HCA : Hid _ := h0
    have HS0 : Hid _ := hs0
    have hrm := h0.runs.hmax
    have hrle := h0.runs.hle
    unfold maxLen at hrm
    rw [h0.runs.hlen] at hrl
    have hrow0 := hR0
    clear hz hb0 h0 h hW0 hs0
    go_enter Tryz.func5, Tryz.ntmps5
    go_wp2_with (refine wpList_load_row (by rfl) 33 (.tmp 1) (by rfl) w.heap.size (by rfl) 33 (csL x l).toArray (0, 0) _ hrow0 Tryz.underlying33 (by rfl) (size_case x l) ?_)
    rw [HW0.out]
    refine hMc.mono ?_; rintro e w1 ⟨X, rfl, hK⟩
    have HK1 : Hid _ := hK.ctx
    clear hMc hR0 hrow0 hK
    go_wp2_with fail
    go_loopw [4, 5, 6] (fun o v u wr => ∃ (i T : Nat) (Xa : XLoc), i ≤ l.rl + 1 ∧ T ≤ 10000 ∧ o = .bool true ∧ u = .int .i64 i ∧ v = .int .i64 T ∧ Xa.g = X.g ∧ KCtx W0 wr x Xa (Mh.runs (cnOf x.c) T (machK x))) (fun _ _ u _ => l.rl + 1 - (intOf u).toNat)
    case atStart => exact ⟨0, 0, X, by omega, by omega, rfl, rfl, rfl, rfl, HK1.out⟩
    case round =>
      obtain ⟨i, T, Xa, hi, hT, rfl, rfl, rfl, hg, hk⟩ := hrel
      have r : Row wr w.heap.size (csL x l) 33 := Row.below HR0.out hk.bel (by have := HS0.out; omega)
      have lr := r.lt
      have HG : Hid _ := hg
      by_cases hle : i ≤ l.rl
      · have hCo := kcoherent_any x l HZ.out Xa T hT wr (HCA.out.below hk.bel (Nat.le_refl _)) hk.mach
        rw [hg] at hCo
        have y16 : wr.cell? ⟨w.heap.size, 16, none⟩ = some (.slice l.ra l.rl l.rc) := r.cell 16
        have hrow := r
        have HKK : Hid _ := hk
        clear hk r hg
        go_wp2_with (refine wpList_load_row (by rfl) 33 (.tmp 1) (by rfl) w.heap.size (by rfl) 33 (csL x l).toArray (0, 0) _ hrow Tryz.underlying33 (by rfl) (size_case x l) ?_)
        refine hCo.mono ?_; rintro e w2 ⟨rfl, hb2⟩
        have K2 := HKK.out.below hb2
        have r2 : Row w2 w.heap.size (csL x l) 33 := Row.below HR0.out K2.bel (by have := HS0.out; omega)
        have lr2 := r2.lt
        have HK2 : Hid _ := K2
        clear hCo hrow hb2 y16
        by_cases hlt : i < l.rl
        · obtain ⟨b, off, hra, e1⟩ := (HCA.out.below K2.bel (Nat.le_refl _)).runs.hat i hlt
          have y16 : w2.cell? ⟨w.heap.size, 16, none⟩ = some (.slice (some ⟨b, off, none⟩) l.rl l.rc) := by rw [← hra]; exact r2.cell 16
          have lb := cell_lt e1
          obtain ⟨n, hn2⟩ : ∃ n, x.runs.getD i 0 = n := ⟨_, rfl⟩
          rw [hn2] at e1
          have hGo := kgoes_any x HZ.out Xa T hT n w2 K2.mach
          rw [HG.out] at hGo
          have hT2 := goT_le n hT
          clear hra hn2 K2 r2
          go_wp2_with fail
          refine hGo.mono ?_; rintro e w3 ⟨X3, rfl, hM3, hG3⟩
          obtain ⟨T2, hTe⟩ : ∃ T2, goT T n = T2 := ⟨_, rfl⟩
          rw [hTe] at hM3 hT2
          rw [hTe]
          have HK3 : Hid _ := HK2.out.goes hG3 hM3
          have HE3 : Hid (X3.g = X.g) := hG3.g.trans HG.out
          clear hGo hM3 hG3 y16 e1 hTe
          go_wp2_with fail
          go_roundw
          case rel => exact ⟨i + 1, T2, X3, by omega, hT2.2, rfl, by go_num, rfl, HE3.out, HK3.out⟩
          case measure => simp [intOf]; omega
        · have y16 : w2.cell? ⟨w.heap.size, 16, none⟩ = some (.slice l.ra l.rl l.rc) := r2.cell 16
          clear K2 r2
          go_wp2_with fail
          go_roundw
          case rel => exact ⟨i + 1, T, Xa, by omega, hT, rfl, by go_num, rfl, HG.out, HK2.out⟩
          case measure => simp [intOf]; omega
      · have y16 : wr.cell? ⟨w.heap.size, 16, none⟩ = some (.slice l.ra l.rl l.rc) := r.cell 16
        have HKK : Hid _ := hk
        clear hk r hg
        go_wp2
        go_ret
        exact ⟨rfl, HB0.out.trans (HKK.out.bel.mono (by have := HS0.out; omega))⟩
  · have hMc := kmachine_bad x l _ h0 hz
    clear hz hb0 h0 h hs0
    go_enter Tryz.func5, Tryz.ntmps5
    go_wp2_with (refine wpList_load_row (by rfl) 33 (.tmp 1) (by rfl) w.heap.size (by rfl) 33 (csL x l).toArray (0, 0) _ hR0 Tryz.underlying33 (by rfl) (size_case x l) ?_)
    refine hMc.mono ?_; rintro e w1 ⟨rfl, hb1⟩
    have HB1 : Hid _ := below_step HB0.out hb1 rfl
    clear hMc hR0 hb1
    go_wp2
    go_ret
    exact ⟨rfl, HB1.out⟩
end Go.Proofs.YtcmcfafhllpojabGreat
