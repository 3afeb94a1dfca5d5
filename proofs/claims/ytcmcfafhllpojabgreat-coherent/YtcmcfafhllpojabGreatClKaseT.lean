/-
  A case of wallskeep: takes.
-/
import Derived.Test.YtcmcfafhllpojabGreatClPackAA
namespace Go.Proofs.YtcmcfafhllpojabGreat
open Go.RowKit

set_option maxRecDepth 100000 in
set_option maxHeartbeats 6400000 in
theorem ktakes_any (x : Cs) (l : Cl) (hz : chk x.c = 0) (d nc n : Nat) (hd : (d : Int) < x.c.domains) (hnc : x.c.cores.toNat = nc) (hn : (n : Int) = x.c.priv + x.c.shared) (evs : List Ev) (e : Ev) (hg : GoodEv (datK x) d evs e) (gB gw gs : Nat) (w0 w : World) (hCA : CaseAt w0 x l) (hb0 : Below w0.heap.size w0 w)
    (hB : BookS w w gB gw gs n nc (fun a => replay (datK x) d evs a) (fun k => seenF k evs)) (n1 : gB ≠ gw) (n2 : gB ≠ gs) (n3 : gw ≠ gs) (hgs : w0.heap.size ≤ gs) :
    Calls Tryz.prog 117 #[.pointer (some ⟨gB, 0, none⟩), csV x l, .int .i64 d, .agg (eventL e).toArray] w fun r w' => r = .returned (.bool true) ∧ BookS w w' gB gw gs n nc (fun a => replay (datK x) d (evs ++ [e]) a) (fun k => seenF k (evs ++ [e])) := by
  have R := right_of hz
  have sb := shape_bounds (chk_zero hz).1
  obtain ⟨k, hk1, hk2, hidx, hlt, hf1, hf2⟩ := hg
  have hk2' : k < nc := by have : (datK x).c.cores.toNat = nc := hnc; omega
  have HRS : Hid _ := replay_snoc (datK x) d evs e
  have HSS : Hid (∀ j, seenF j (evs ++ [e]) = seenF j evs + if e.core = (j : Int) then 1 else 0) := fun j => seen_snoc j evs e
  have hop : opOf (datK x) d e = (progK x (d * nc + k)).getD (seenF k evs) opZ := by
    unfold opOf
    rw [hk1, hidx, Int.toNat_natCast, Int.toNat_natCast]
    show (progK x (d * x.c.cores.toNat + k)).getD _ _ = _
    rw [hnc]
  have hlt' : seenF k evs < (progK x (d * nc + k)).length := by
    have : (progF (datK x) d k) = progK x (d * x.c.cores.toNat + k) := rfl
    rw [this, hnc] at hlt
    exact hlt
  obtain ⟨i, hi⟩ : ∃ i, seenF k evs = i := ⟨_, rfl⟩
  obtain ⟨os, hos⟩ : ∃ os, progK x (d * nc + k) = os := ⟨_, rfl⟩
  have hos64 := (progK_kin x (d * nc + k)).1
  rw [hi] at hidx hlt' hop
  rw [hos] at hlt' hop hos64
  obtain ⟨ec, ei, ev, ef, eis, edn⟩ := e
  simp only at hk1 hidx hf1 hf2
  subst hk1
  subst hidx
  obtain ⟨o, ho⟩ : ∃ o, os.getD i opZ = o := ⟨_, rfl⟩
  rw [ho] at hop
  rw [hop] at hf1 hf2 HRS
  have HOP : Hid _ := ho
  have HSI : Hid _ := hi
  have HOS : Hid _ := hos
  have hb1 : Below w.heap.size w ((w.alloc (.cells (csA x l) 33)).alloc (.cells #[.int .i64 k, .int .i64 i, .int .i64 ev, .int .i64 ef, .int .i64 eis, .int .i64 edn] 112)) := ((Below.refl _ _).alloc (Nat.le_refl _) _).alloc (by simp) _
  have RC : Row ((w.alloc (.cells (csA x l) 33)).alloc (.cells #[.int .i64 k, .int .i64 i, .int .i64 ev, .int .i64 ef, .int .i64 eis, .int .i64 edn] 112)) w.heap.size (csL x l) 33 := Row.alloc (heap_alloc_new w _) _
  have RE : Row ((w.alloc (.cells (csA x l) 33)).alloc (.cells #[.int .i64 k, .int .i64 i, .int .i64 ev, .int .i64 ef, .int .i64 eis, .int .i64 edn] 112)) (w.heap.size + 1) [.int .i64 k, .int .i64 i, .int .i64 ev, .int .i64 ef, .int .i64 eis, .int .i64 edn] 112 := by
    have := heap_alloc_new (w.alloc (.cells (csA x l) 33)) (.cells #[.int .i64 k, .int .i64 i, .int .i64 ev, .int .i64 ef, .int .i64 eis, .int .i64 edn] 112)
    rw [World.size_alloc] at this
    exact this
  have B1 := hB.below hb1
  have lB := hB.bk.lt
  have lW := hB.wd.lt
  have lS := hB.sn.lt
  have HNC : Hid ((nc : Int) = x.c.cores) := by unfold Hid; have := R.c1; omega
  have HZ : Hid _ := hz
  have HCA : Hid _ := hCA
  have HB00 : Hid _ := below_step hb0 hb1 rfl
  have hc3 : nc ≤ 3 := by have := R.c2; omega
  have hd4 : d ≤ 4 := by have := R.d2; omega
  have hsz : ((w.alloc (.cells (csA x l) 33)).alloc (.cells #[.int .i64 k, .int .i64 i, .int .i64 ev, .int .i64 ef, .int .i64 eis, .int .i64 edn] 112)).heap.size = w.heap.size + 2 := by simp
  clear hz hB hCA hb0 R sb hnc hd hop ho hos hi hlt hk2
  go_enter Tryz.func117, Tryz.ntmps117
  go_wp2_with fail
  generalize ((w.alloc (.cells (csA x l) 33)).alloc (.cells #[.int .i64 k, .int .i64 i, .int .i64 ev, .int .i64 ef, .int .i64 eis, .int .i64 edn] 112)) = W at *
  have y0 : W.cell? ⟨w.heap.size, 0, none⟩ = some (.int .i64 nc) := by rw [HNC.out]; exact RC.cell 0
  have v0 : W.cell? ⟨w.heap.size + 1, 0, none⟩ = some (.int .i64 k) := RE.cell 0
  have v1 : W.cell? ⟨w.heap.size + 1, 1, none⟩ = some (.int .i64 i) := RE.cell 1
  have b1 : W.cell? ⟨gB, 1, none⟩ = some (.slice (some ⟨gs, 0, none⟩) nc nc) := B1.bk.cell 1
  have s1 : W.cell? ⟨gs, k, none⟩ = some (.int .i64 i) := by rw [B1.sn.cell, fl_at hk2', HSI.out]
  have HRC : Hid (Row W w.heap.size (csL x l) 33) := RC
  have HRE : Hid (Row W (w.heap.size + 1) [.int .i64 k, .int .i64 i, .int .i64 ev, .int .i64 ef, .int .i64 eis, .int .i64 edn] 112) := RE
  have HB1 : Hid _ := B1
  have HBW : Hid _ := hb1
  have HRS' : Hid _ := HRS
  have lW2 : w.heap.size + 2 ≤ W.heap.size := by omega
  clear RC RE B1 hb1 HRS
  go_quiet (fail)
  have hrow := HRC.out
  unfold Hid at hrow
  go_wp2_with (refine wpList_load_row (by rfl) 33 (.tmp 5) (by rfl) w.heap.size (by rfl) 33 (csL x l).toArray (0, 0) _ hrow Tryz.underlying33 (by rfl) (size_case x l) ?_)
  refine (kprogram_base x l d k nc w0 _ HCA.out (by exact HB00.out.trans ⟨rfl, rfl, rfl, Nat.le_refl _, fun _ _ => rfl⟩) HNC.out hc3 hd4 (by omega)).mono ?_; rintro e w1 ⟨qa, ql, qc, rfl, hO, hb2⟩
  rw [HOS.out] at hO
  have HO : Hid _ := hO
  have hql : os.length = ql := hO.hlen
  have hqle := hO.hle
  have hqm := hO.hmax
  unfold maxLen at hqm
  have K1 : BookS w w1 gB gw gs n nc (fun a => replay (datK x) d evs a) (fun k => seenF k evs) := (HB1.out.drew _).below hb2
  have r1 : Row w1 w.heap.size (csL x l) 33 := Row.below (w := W.drewN _) HRC.out hb2 (by show w.heap.size < W.heap.size; omega)
  have e1 : Row w1 (w.heap.size + 1) [.int .i64 k, .int .i64 i, .int .i64 ev, .int .i64 ef, .int .i64 eis, .int .i64 edn] 112 := Row.below (w := W.drewN _) HRE.out hb2 (by show w.heap.size + 1 < W.heap.size; omega)
  have B01 : Below w0.heap.size w0 w1 := HB00.out.trans (Below.mono ⟨hb2.os, hb2.tape, hb2.output, hb2.size, hb2.block⟩ HB00.out.size)
  clear y0 v0 v1 b1 s1 hb2 hO hrow
  have v1 : w1.cell? ⟨w.heap.size + 1, 1, none⟩ = some (.int .i64 i) := e1.cell 1
  have HK1 : Hid _ := K1
  have HR1 : Hid (Row w1 w.heap.size (csL x l) 33) := r1
  have HE1 : Hid (Row w1 (w.heap.size + 1) [.int .i64 k, .int .i64 i, .int .i64 ev, .int .i64 ef, .int .i64 eis, .int .i64 edn] 112) := e1
  have HB01 : Hid _ := B01
  have l1 := e1.lt
  clear K1 r1 e1 B01
  go_upto_region 6 with fail
  go_cut [] (fun wx => BookS w wx gB gw gs n nc (fun a => replay (datK x) d evs a) (up1 (fun k => (seenF k evs : Int)) k ((i : Int) + 1)) ∧ Row wx w.heap.size (csL x l) 33 ∧ Row wx (w.heap.size + 1) [.int .i64 k, .int .i64 i, .int .i64 ev, .int .i64 ef, .int .i64 eis, .int .i64 edn] 112 ∧ Below w0.heap.size w0 wx)
  case first =>
    have b1 : w1.cell? ⟨gB, 1, none⟩ = some (.slice (some ⟨gs, 0, none⟩) nc nc) := HK1.out.bk.cell 1
    have s1 : w1.cell? ⟨gs, k, none⟩ = some (.int .i64 i) := by rw [HK1.out.sn.cell, fl_at hk2', HSI.out]
    have f1 : w1.frozen? ⟨gs, k, none⟩ = false := HK1.out.sn.frozen k
    have v0 : w1.cell? ⟨w.heap.size + 1, 0, none⟩ = some (.int .i64 k) := HE1.out.cell 0
    have hi64 : i ≤ 64 := by omega
    have HKS : Hid (BookS w (w1.setCell ⟨gs, k, none⟩ (.int .i64 ((i : Int) + 1))) gB gw gs n nc (fun a => replay (datK x) d evs a) (up1 (fun k => (seenF k evs : Int)) k ((i : Int) + 1))) := HK1.out.seen n2 n3 k _
    have HRS2 : Hid (Row (w1.setCell ⟨gs, k, none⟩ (.int .i64 ((i : Int) + 1))) w.heap.size (csL x l) 33) := Row.setCellOther (g := gs) HR1.out k _ (by omega)
    have HES2 : Hid (Row (w1.setCell ⟨gs, k, none⟩ (.int .i64 ((i : Int) + 1))) (w.heap.size + 1) [.int .i64 k, .int .i64 i, .int .i64 ev, .int .i64 ef, .int .i64 eis, .int .i64 edn] 112) := Row.setCellOther (g := gs) HE1.out k _ (by omega)
    have HBS2 : Hid (Below w0.heap.size w0 (w1.setCell ⟨gs, k, none⟩ (.int .i64 ((i : Int) + 1)))) := HB01.out.setCell (p := ⟨gs, k, none⟩) hgs _
    have hwr : IntKind.i64.wrap ((i : Int) + 1) = (i : Int) + 1 := by rw [IntKind.wrap_i64]; omega
    clear v1
    go_region_with fail
    all_goals go_wp2_with fail
    all_goals go_meet
    all_goals exact ⟨⟨HKS.out.bk, HKS.out.wd, HKS.out.sn, ⟨HKS.out.tch.os, HKS.out.tch.tape, HKS.out.tch.output, HKS.out.tch.size, HKS.out.tch.block⟩⟩, HRS2.out, HES2.out, ⟨HBS2.out.os, HBS2.out.tape, HBS2.out.output, HBS2.out.size, HBS2.out.block⟩⟩
  case rest =>
    obtain ⟨K2, r2, e2, B02⟩ := hcut
    obtain ⟨pb, poff, rfl, c1, c2, c3⟩ := (HO.out.below B02 (Nat.le_refl _)).hat i (by omega)
    rw [HOP.out] at c1 c2 c3
    obtain ⟨o1, o2, o3⟩ := o
    simp only at c1 c2 c3
    have lp := cell_lt c1
    have v1 : wc.cell? ⟨w.heap.size + 1, 1, none⟩ = some (.int .i64 i) := e2.cell 1
    have l2 := e2.lt
    have l2' : w.heap.size < wc.heap.size := by omega
    obtain ⟨x0, x1, x2, x3, x4, x5, x6, x7, x8, x9, x10, x11, x12⟩ := cs_cells r2
    have hbA : Below wc.heap.size wc (wc.alloc (.cells (opArr (o1, o2, o3)) 78)) := (Below.refl _ _).alloc (Nat.le_refl _) _
    have hFo := kfaultOf_any x.c l.s (o1, o2, o3) (wc.alloc (.cells (opArr (o1, o2, o3)) 78)) HZ.out
    have HK2 : Hid _ := K2.below hbA
    have HE2 : Hid (Row (wc.alloc (.cells (opArr (o1, o2, o3)) 78)) (w.heap.size + 1) [.int .i64 k, .int .i64 i, .int .i64 ev, .int .i64 ef, .int .i64 eis, .int .i64 edn] 112) := e2.below hbA l2
    have HO2 : Hid (Row (wc.alloc (.cells (opArr (o1, o2, o3)) 78)) wc.heap.size (opL (o1, o2, o3)) 78) := heap_alloc_new wc _
    have lB2 := K2.bk.lt
    have lW2 := K2.wd.lt
    clear K2 r2 e2 hbA
    go_wp2_with fail
    refine hFo.mono ?_; rintro r w3 ⟨rfl, hb3⟩
    have K3 := HK2.out.below hb3
    have e3 : Row w3 (w.heap.size + 1) [.int .i64 k, .int .i64 i, .int .i64 ev, .int .i64 ef, .int .i64 eis, .int .i64 edn] 112 := Row.below HE2.out hb3 (by simp; omega)
    have q3 : Row w3 wc.heap.size (opL (o1, o2, o3)) 78 := Row.below HO2.out hb3 (by simp)
    have u2 : w3.cell? ⟨w.heap.size + 1, 2, none⟩ = some (.int .i64 ev) := e3.cell 2
    have u3 : w3.cell? ⟨w.heap.size + 1, 3, none⟩ = some (.int .i64 ef) := e3.cell 3
    have z0 : w3.cell? ⟨wc.heap.size, 0, none⟩ = some (.int .i64 o1) := q3.cell 0
    have z1 : w3.cell? ⟨wc.heap.size, 1, none⟩ = some (.int .i64 o2) := q3.cell 1
    have z2 : w3.cell? ⟨wc.heap.size, 2, none⟩ = some (.int .i64 o3) := q3.cell 2
    have l3 := e3.lt
    have l4 := q3.lt
    have HK3 : Hid _ := K3
    have HE3 : Hid (Row w3 (w.heap.size + 1) [.int .i64 k, .int .i64 i, .int .i64 ev, .int .i64 ef, .int .i64 eis, .int .i64 edn] 112) := e3
    have HQ3 : Hid (Row w3 wc.heap.size (opL (o1, o2, o3)) 78) := q3
    have HSN : Hid (up1 (fun k => (seenF k evs : Int)) k ((i : Int) + 1) = fun j => (seenF j (evs ++ [⟨(k : Int), (i : Int), ev, ef, eis, edn⟩]) : Int)) := by
      unfold Hid
      funext j
      rw [HSS.out j]
      unfold up1
      by_cases q : j = k
      · subst q; rw [if_pos rfl, if_pos rfl, HSI.out]; omega
      · rw [if_neg q, if_neg (by show ¬ ((k : Int) = (j : Int)); omega)]; rfl
    clear x0 x1 x2 x3 x4 x5 x6 x7 x8 x9 x10 x11 x12 c1 c2 c3 hFo hb3 v1 K3 e3 q3
    by_cases hfz : faultF x.c (o1, o2, o3) = 0
    · obtain ⟨g1, g2⟩ := hf2 hfz
      have hff := fault_free hfz
      simp only at hff g1 g2
      obtain ⟨a, ha⟩ := Int.eq_ofNat_of_zero_le hff.1
      subst ha
      have han : a < n := by omega
      subst g1
      rw [hfz]
      have b0 : w3.cell? ⟨gB, 0, none⟩ = some (.slice (some ⟨gw, 0, none⟩) n n) := HK3.out.bk.cell 0
      have lB3 := HK3.out.bk.lt
      have lW3 := HK3.out.wd.lt
      by_cases ho1 : o1 = 1
      · subst ho1
        rw [if_pos rfl] at g2
        subst g2
        have wa : w3.cell? ⟨gw, a, none⟩ = some (.int .i64 (replay (datK x) d evs (a : Int))) := by rw [HK3.out.wd.cell, fl_at han]
        have fa : w3.frozen? ⟨gw, a, none⟩ = false := HK3.out.wd.frozen a
        have HRP : Hid (up1 (fun a : Nat => replay (datK x) d evs (a : Int)) a ev = fun j : Nat => replay (datK x) d (evs ++ [⟨(k : Int), (i : Int), ev, 0, eis, edn⟩]) (j : Int)) := by
          unfold Hid
          funext j
          rw [HRS'.out]
          unfold updF up1
          by_cases q : j = a
          · subst q; rw [if_pos rfl, if_pos ⟨hfz, rfl, rfl⟩]
          · rw [if_neg q, if_neg (fun q2 => q (by have : (a : Int) = (j : Int) := q2.2.2; omega))]
        have HKW : Hid (BookS w (w3.setCell ⟨gw, a, none⟩ (.int .i64 ev)) gB gw gs n nc (fun j : Nat => replay (datK x) d (evs ++ [⟨(k : Int), (i : Int), ev, 0, eis, edn⟩]) (j : Int)) (fun j => (seenF j (evs ++ [⟨(k : Int), (i : Int), ev, 0, eis, edn⟩]) : Int))) := by
          unfold Hid; rw [← HRP.out, ← HSN.out]; exact HK3.out.word n1 (fun q => n3 q.symm) a ev
        have HEW : Hid (Row (w3.setCell ⟨gw, a, none⟩ (.int .i64 ev)) (w.heap.size + 1) [.int .i64 k, .int .i64 i, .int .i64 ev, .int .i64 0, .int .i64 eis, .int .i64 edn] 112) := Row.setCellOther (g := gw) HE3.out a _ (by omega)
        have HOW : Hid (Row (w3.setCell ⟨gw, a, none⟩ (.int .i64 ev)) wc.heap.size (opL (1, (a : Int), ev)) 78) := Row.setCellOther (g := gw) HQ3.out a _ (by omega)
        clear hf1 hf2 HSN HSS HRS' hff u2 u3
        go_upto_region 12 with fail
        go_cut [] (fun wx => BookS w wx gB gw gs n nc (fun j : Nat => replay (datK x) d (evs ++ [⟨(k : Int), (i : Int), ev, 0, eis, edn⟩]) (j : Int)) (fun j => (seenF j (evs ++ [⟨(k : Int), (i : Int), ev, 0, eis, edn⟩]) : Int)) ∧ Row wx (w.heap.size + 1) [.int .i64 k, .int .i64 i, .int .i64 ev, .int .i64 0, .int .i64 eis, .int .i64 edn] 112 ∧ Row wx wc.heap.size (opL (1, (a : Int), ev)) 78 ∧ wx.cell? ⟨gw, a, none⟩ = some (.int .i64 ev))
        case first =>
          have HCW : Hid ((w3.setCell ⟨gw, a, none⟩ (.int .i64 ev)).cell? ⟨gw, a, none⟩ = some (.int .i64 ev)) := by
            unfold Hid
            have := HK3.out.wd.setCell a (.int .i64 ev)
            rw [this.cell, fl_set, fl_at han]
            simp [up1]
          clear hfz
          go_region_with fail
          all_goals go_wp2_with fail
          all_goals go_meet
          all_goals exact ⟨⟨HKW.out.bk, HKW.out.wd, HKW.out.sn, ⟨HKW.out.tch.os, HKW.out.tch.tape, HKW.out.tch.output, HKW.out.tch.size, HKW.out.tch.block⟩⟩, HEW.out, HOW.out, HCW.out⟩
        case rest =>
          rename_i wd1
          obtain ⟨K4, e4, o4, c4⟩ := hcut
          have u2 := e4.cell 2
          have u3 := e4.cell 3
          have z1 := o4.cell 1
          have b0 := K4.bk.cell 0
          simp only [List.getElem?_cons_zero, List.getElem?_cons_succ] at u2 u3 z1 b0
          have HK4 : Hid _ := K4
          clear K4 e4 o4 wa fa hfz
          go_wp2_with fail
          go_quiet (fail)
          go_wp2
          go_ret
          exact ⟨rfl, HK4.out.drew _⟩
      · rw [if_neg ho1] at g2
        subst g2
        have hob : (o1 == 1) = false := by simp [ho1]
        have wa : w3.cell? ⟨gw, a, none⟩ = some (.int .i64 (replay (datK x) d evs (a : Int))) := by rw [HK3.out.wd.cell, fl_at han]
        have HRP : Hid ((fun a : Nat => replay (datK x) d evs (a : Int)) = fun j : Nat => replay (datK x) d (evs ++ [⟨(k : Int), (i : Int), replay (datK x) d evs (a : Int), 0, eis, edn⟩]) (j : Int)) := by
          unfold Hid
          funext j
          rw [HRS'.out]
          unfold updF
          rw [if_neg (fun q => ho1 q.2.1)]
        have HKF : Hid (BookS w w3 gB gw gs n nc (fun j : Nat => replay (datK x) d (evs ++ [⟨(k : Int), (i : Int), replay (datK x) d evs (a : Int), 0, eis, edn⟩]) (j : Int)) (fun j => (seenF j (evs ++ [⟨(k : Int), (i : Int), replay (datK x) d evs (a : Int), 0, eis, edn⟩]) : Int))) := by
          unfold Hid; rw [← HRP.out, ← HSN.out]; exact HK3.out
        clear hf1 hf2 HSN HRP HSS HRS' hff hfz
        go_wp2_with fail
        go_quiet (fail)
        go_wp2
        go_ret
        exact ⟨rfl, HKF.out.drew _⟩
    · have hfb : (faultF x.c (o1, o2, o3) != 0) = true := by simp [hfz]
      obtain ⟨g1, g2⟩ := hf1 hfz
      have g1' : ef = faultF x.c (o1, o2, o3) := g1
      have HRP : Hid ((fun a : Nat => replay (datK x) d evs (a : Int)) = fun a : Nat => replay (datK x) d (evs ++ [⟨(k : Int), (i : Int), ev, ef, eis, edn⟩]) (a : Int)) := by
        unfold Hid
        funext a
        rw [HRS'.out]
        unfold updF
        rw [if_neg (fun q => hfz q.1)]
      obtain ⟨fv, hfv⟩ : ∃ fv, faultF x.c (o1, o2, o3) = fv := ⟨_, rfl⟩
      rw [hfv] at hfb g1'
      rw [hfv]
      have HKF : Hid (BookS w w3 gB gw gs n nc (fun a : Nat => replay (datK x) d (evs ++ [⟨(k : Int), (i : Int), ev, ef, eis, edn⟩]) (a : Int)) (fun j => (seenF j (evs ++ [⟨(k : Int), (i : Int), ev, ef, eis, edn⟩]) : Int))) := by
        unfold Hid; rw [← HRP.out, ← HSN.out]; exact HK3.out
      subst g1'
      subst g2
      clear hf1 hf2 hfz hfv HSN HRP HSS HRS'
      go_wp2
      go_ret
      exact ⟨rfl, HKF.out⟩
end Go.Proofs.YtcmcfafhllpojabGreat
