/-
  A case of wallskeep: read, and the book that it leaves.
-/
import Derived.Test.YtcmcfafhllpojabGreatClPackAB
import Derived.Deep.RegionLaw
import Derived.Deep.RegionHeld3
namespace Go.Proofs.YtcmcfafhllpojabGreat
open Go.RowKit

theorem cs17b {w : World} {g : Nat} {x : Cs} {l : Cl} (h : Row w g (csL x l) 33) : w.cell? ⟨g, 0, none⟩ = some (.int .i64 x.c.cores) ∧ w.cell? ⟨g, 1, none⟩ = some (.int .i64 x.c.domains) ∧ w.cell? ⟨g, 2, none⟩ = some (.int .i64 x.c.line) ∧ w.cell? ⟨g, 3, none⟩ = some (.int .i64 x.c.priv) ∧ w.cell? ⟨g, 4, none⟩ = some (.int .i64 x.c.shared) ∧ w.cell? ⟨g, 5, none⟩ = some (.int .i64 x.c.near) ∧ w.cell? ⟨g, 6, none⟩ = some (.int .i64 x.c.sets) ∧ w.cell? ⟨g, 7, none⟩ = some (.slice l.s.wa l.s.wl l.s.wc) ∧ w.cell? ⟨g, 8, none⟩ = some (.int .i64 x.c.slot) ∧ w.cell? ⟨g, 9, none⟩ = some (.slice l.s.sa l.s.sl l.s.sc) ∧ w.cell? ⟨g, 10, none⟩ = some (.slice l.s.ta l.s.tl l.s.tc) ∧ w.cell? ⟨g, 11, none⟩ = some (.int .i64 x.c.quantum) ∧ w.cell? ⟨g, 12, none⟩ = some (.int .i64 x.c.flush) ∧ w.cell? ⟨g, 13, none⟩ = some (.slice l.pa l.pl l.pc) ∧ w.cell? ⟨g, 14, none⟩ = some (.slice l.oa l.ol l.oc) ∧ w.cell? ⟨g, 15, none⟩ = some (.slice l.ma l.ml l.mc) ∧ w.cell? ⟨g, 16, none⟩ = some (.slice l.ra l.rl l.rc) :=
  ⟨h.cell 0, h.cell 1, h.cell 2, h.cell 3, h.cell 4, h.cell 5, h.cell 6, h.cell 7, h.cell 8, h.cell 9, h.cell 10, h.cell 11, h.cell 12, h.cell 13, h.cell 14, h.cell 15, h.cell 16⟩

set_option maxRecDepth 100000 in
set_option maxHeartbeats 6400000 in
theorem kread_book (x : Cs) (l : Cl) (hz : chk x.c = 0) (d : Nat) (hd : (d : Int) < x.c.domains) (es : List Ev) (hr : ReadOk (datK x) d es) (sa : Option Addr) (len cap : Nat) (w : World) (h : CaseAt w x l) (hE : EvsAt w sa len cap es) (hl : len ≤ 192) :
    Calls Tryz.prog 62 #[csV x l, .slice sa len cap, .int .i64 d] w fun e w' => ∃ gB gw gs, e = .returned (.tuple #[.pointer (some ⟨gB, 0, none⟩), .bool true]) ∧ Below w.heap.size w w' ∧ BookS w' w' gB gw gs (x.c.priv.toNat + x.c.shared.toNat) x.c.cores.toNat (fun a => replay (datK x) d es (a : Int)) (fun k => (seenF k es : Int)) := by
  have hN := nm_of hz
  obtain ⟨i0, hi0, hz0, hz1, hz2⟩ := info_parts Tryz.infoInt
  obtain ⟨nc, hnc⟩ : ∃ nc, x.c.cores.toNat = nc := ⟨_, rfl⟩
  obtain ⟨pv, hpv⟩ : ∃ pv, x.c.priv.toNat = pv := ⟨_, rfl⟩
  obtain ⟨sn, hsn⟩ : ∃ sn, x.c.shared.toNat = sn := ⟨_, rfl⟩
  have ec : (nc : Int) = x.c.cores := by rw [← hnc]; exact hN.nc
  have ep : (pv : Int) = x.c.priv := by rw [← hpv]; exact hN.pv
  have es' : (sn : Int) = x.c.shared := by rw [← hsn]; exact hN.sn
  have hb0 : Below w.heap.size w (w.alloc (.cells (csA x l) 33)) := (Below.refl _ _).alloc (Nat.le_refl _) _
  have hR0 : Row (w.alloc (.cells (csA x l) 33)) w.heap.size (csL x l) 33 := heap_alloc_new w _
  have hc3 : nc ≤ 3 := by have := (right_of hz).c2; omega
  have HWd : ∀ w', CaseAt w' x l → Calls Tryz.prog 116 #[csV x l, .int .i64 d] w' fun e w'' => e = .returned (.slice (some ⟨w'.heap.size + 1, 0, none⟩) (pv + sn) (pv + sn)) ∧ Row w'' (w'.heap.size + 1) (wl (pv + sn) pv (ownK x.c x.own d) (shK x.c x.com)) 3 ∧ Below w'.heap.size w' w'' := fun w' h' => kwords_any x l hz d hd pv sn ep es' w' h'
  have HW2 : Hid (∀ w', Below w.heap.size w w' → Calls Tryz.prog 116 #[csV x l, .int .i64 d] w' fun e w'' => e = .returned (.slice (some ⟨w'.heap.size + 1, 0, none⟩) (pv + sn) (pv + sn)) ∧ Row w'' (w'.heap.size + 1) (wl (pv + sn) pv (ownK x.c x.own d) (shK x.c x.com)) 3 ∧ Below w'.heap.size w' w'') := fun w' hb => HWd w' (h.below hb (Nat.le_refl _))
  have HMK : Hid (i0.bytes * nc ≤ 281474976710656) := by unfold Hid; rw [hz2]; omega
  have HCA : Hid _ := h
  have HEC : Hid _ := ec
  have y0 : (w.alloc (.cells (csA x l) 33)).cell? ⟨w.heap.size, 0, none⟩ = some (.int .i64 x.c.cores) := hR0.cell 0
  have HR0 : Hid (Row (w.alloc (.cells (csA x l) 33)) w.heap.size (csL x l) 33) := hR0
  have HB0 : Hid _ := hb0
  have hmk : ∀ w' : World, (Instr.makeSlice 25 (.int .i64 x.c.cores) (.int .i64 x.c.cores)).run Tryz.prog w' = .ok (.slice (some ⟨w'.heap.size, 0, none⟩) nc nc) (w'.alloc (.cells (madeCells #[.int .i64 0] nc) 3)) := fun w' => by
    have := run_make (P := Tryz.prog) w' 25 3 i0 (.int .i64 0) Tryz.underlying25 hi0 hz0 .i64 .i64 (nc : Int) (nc : Int) (by omega) (Int.le_refl _) (by rw [hz2]; omega) (by omega)
    simp only [Int.toNat_natCast, hz1, Nat.mul_one] at this
    rw [← ec]
    exact this
  have HES : Hid (((pv + sn : Nat) : Int) = x.c.priv + x.c.shared) := by unfold Hid; omega
  have HZ : Hid _ := hz
  have HNC : Hid _ := hnc
  have HPV : Hid _ := hpv
  have HSN : Hid _ := hsn
  have HEP : Hid _ := ep
  have hsz0 : (w.alloc (.cells (csA x l) 33)).heap.size = w.heap.size + 1 := by simp
  obtain ⟨W0, hW0⟩ : ∃ W0, w.alloc (.cells (csA x l) 33) = W0 := ⟨_, rfl⟩
  rw [hW0] at hb0 hR0 y0 HR0 HB0 hsz0
  have HW0 : Hid _ := hW0
  clear HWd hN hz h hb0 ec ep es' hnc hpv hsn hi0 hz0 hz1 hz2 HMK hW0
  go_enter Tryz.func62, Tryz.ntmps62
  go_wp2_with fail
  rw [HW0.out]
  go_cut [8] (fun u wx => Made w wx x l (pv + sn) nc (fun a => if a < pv then ownK x.c x.own d a else shK x.c x.com (a - pv)) u)
  case first =>
    have lr0 : w.heap.size < W0.heap.size := by omega
    obtain ⟨x0, x1, x2, x3, x4, x5, x6, x7, x8, x9, x10, x11, x12⟩ := cs_cells hR0
    have x13 : W0.cell? ⟨w.heap.size, 13, none⟩ = some (.slice l.pa l.pl l.pc) := hR0.cell 13
    have x14 : W0.cell? ⟨w.heap.size, 14, none⟩ = some (.slice l.oa l.ol l.oc) := hR0.cell 14
    have x15 : W0.cell? ⟨w.heap.size, 15, none⟩ = some (.slice l.ma l.ml l.mc) := hR0.cell 15
    have x16 : W0.cell? ⟨w.heap.size, 16, none⟩ = some (.slice l.ra l.rl l.rc) := hR0.cell 16
    go_region_held3 (fun w' => w'.cell? ⟨w.heap.size, 0, none⟩ = some (.int .i64 x.c.cores) ∧ w'.cell? ⟨w.heap.size, 1, none⟩ = some (.int .i64 x.c.domains) ∧ w'.cell? ⟨w.heap.size, 2, none⟩ = some (.int .i64 x.c.line) ∧ w'.cell? ⟨w.heap.size, 3, none⟩ = some (.int .i64 x.c.priv) ∧ w'.cell? ⟨w.heap.size, 4, none⟩ = some (.int .i64 x.c.shared) ∧ w'.cell? ⟨w.heap.size, 5, none⟩ = some (.int .i64 x.c.near) ∧ w'.cell? ⟨w.heap.size, 6, none⟩ = some (.int .i64 x.c.sets) ∧ w'.cell? ⟨w.heap.size, 7, none⟩ = some (.slice l.s.wa l.s.wl l.s.wc) ∧ w'.cell? ⟨w.heap.size, 8, none⟩ = some (.int .i64 x.c.slot) ∧ w'.cell? ⟨w.heap.size, 9, none⟩ = some (.slice l.s.sa l.s.sl l.s.sc) ∧ w'.cell? ⟨w.heap.size, 10, none⟩ = some (.slice l.s.ta l.s.tl l.s.tc) ∧ w'.cell? ⟨w.heap.size, 11, none⟩ = some (.int .i64 x.c.quantum) ∧ w'.cell? ⟨w.heap.size, 12, none⟩ = some (.int .i64 x.c.flush) ∧ w'.cell? ⟨w.heap.size, 13, none⟩ = some (.slice l.pa l.pl l.pc) ∧ w'.cell? ⟨w.heap.size, 14, none⟩ = some (.slice l.oa l.ol l.oc) ∧ w'.cell? ⟨w.heap.size, 15, none⟩ = some (.slice l.ma l.ml l.mc) ∧ w'.cell? ⟨w.heap.size, 16, none⟩ = some (.slice l.ra l.rl l.rc)) (first | exact cs17b r2 | exact cs17b HR0.out | exact cs17b (Row.alloc HR0.out _) | exact cs17b (Row.alloc r2 _) | go_keep) (first
      | (go_at_call 116; refine (HW2.out _ (by repeat (first | with_reducible exact HB0.out | with_reducible refine Below.drew ?_ | with_reducible refine Below.alloc ?_ (by first | omega | (simp; omega)) _))).mono ?_; rintro e w2 ⟨rfl, hg2, hb2⟩; have b2 : Below W0.heap.size W0 w2 := (below_step (by repeat (first | with_reducible exact Below.refl _ _ | with_reducible refine Below.drew ?_ | with_reducible refine Below.alloc ?_ (by simp) _)) hb2 rfl); have r2 : Row w2 w.heap.size (csL x l) 33 := (Row.below HR0.out b2 (by omega)); have lr2 := r2.lt))
    all_goals have HBZ : Below w.heap.size w w2 := HB0.out.trans (b2.mono (by omega))
    all_goals have hd0 : W0.drew.heap.size = w.heap.size + 1 := hsz0
    all_goals have hd1 : (W0.drew.alloc (.cells (madeCells #[.int .i64 0] nc) 3)).heap.size = w.heap.size + 1 + 1 := by rw [World.size_alloc, hd0]
    all_goals have hd2 : (W0.alloc (.cells (madeCells #[.int .i64 0] nc) 3)).heap.size = w.heap.size + 1 + 1 := by rw [World.size_alloc, hsz0]
    all_goals have hd3 : (W0.alloc (.cells (madeCells #[.int .i64 0] nc) 3)).drew.heap.size = w.heap.size + 1 + 1 := hd2
    all_goals clear hmk y0 x0 x1 x2 x3 x4 x5 x6 x7 x8 x9 x10 x11 x12 x13 x14 x15 x16
    all_goals go_wp2_with fail
    all_goals go_meet
    all_goals first
      | (refine book_A r2 HBZ ?_ ?_
         · first | exact hg2 | (have q := hg2; rw [hd0] at q; exact q)
         · omega)
      | (refine book_B r2 HBZ ?_ ?_ ?_ ?_ ?_
         · first | exact hg2 | (have q := hg2; (first | rw [hd3] at q | rw [hd1] at q | rw [hd2] at q); exact q)
         · have q := seen_B (W0 := W0) (nc := nc) ⟨hb2.os, hb2.tape, hb2.output, hb2.size, hb2.block⟩
           rw [hsz0] at q
           exact q
         · omega
         · omega
         · omega)
  case rest =>
    obtain ⟨gB, gw, gs, rfl, r1, B1, K1, n1, n2, n3, g1, g2, g3⟩ := hcut
    have K1' : BookS wc wc gB gw gs (pv + sn) nc (fun a => replay (datK x) d (es.take 0) (a : Int)) (fun k => (seenF k (es.take 0) : Int)) := K1.same (fun a ha => by
      rw [firstK x d a pv sn HEP.out (by have := HES.out; have := HEP.out; omega) ha]
      rfl) (fun k _ => rfl)
    have HK1 : Hid _ := K1'
    have HR1 : Hid (Row wc w.heap.size (csL x l) 33) := r1
    have HB1 : Hid _ := B1
    have HE : Hid _ := hE
    have HEL : Hid _ := hE.hlen
    have HGE : Hid _ := read_each hr
    have hcap := hE.hle
    have hcm := hE.hmax
    unfold maxLen at hcm
    clear K1 K1' r1 B1 hmk y0 HW2 hE hR0
    go_wp2_with fail
    go_loopw [9] (fun u wr => ∃ (i : Nat), i ≤ len ∧ u = .int .i64 i ∧ Row wr w.heap.size (csL x l) 33 ∧ Below w.heap.size w wr ∧ BookS wr wr gB gw gs (pv + sn) nc (fun a => replay (datK x) d (es.take i) (a : Int)) (fun k => (seenF k (es.take i) : Int))) (fun u _ => len - (intOf u).toNat)
    case atStart => exact ⟨0, by omega, rfl, HR1.out, HB1.out, HK1.out⟩
    case round =>
      obtain ⟨i, hi, rfl, r, B, K⟩ := hrel
      by_cases hlt : i < len
      · obtain ⟨eb, eoff, rfl, c0, c1, c2, c3, c4, c5⟩ := (HE.out.below B (Nat.le_refl _)).hat i hlt
        have hge := HGE.out i (by rw [HEL.out]; exact hlt)
        have HT1 : Hid _ := take_one (es := es) (i := i) (by rw [HEL.out]; exact hlt)
        obtain ⟨ev, hev⟩ : ∃ ev, es.getD i evZ = ev := ⟨_, rfl⟩
        rw [hev] at c0 c1 c2 c3 c4 c5 hge HT1
        have lE := cell_lt c0
        have lr := r.lt
        obtain ⟨x0, x1, x2, x3, x4, x5, x6, x7, x8, x9, x10, x11, x12⟩ := cs_cells r
        have x13 : wr.cell? ⟨w.heap.size, 13, none⟩ = some (.slice l.pa l.pl l.pc) := r.cell 13
        have x14 : wr.cell? ⟨w.heap.size, 14, none⟩ = some (.slice l.oa l.ol l.oc) := r.cell 14
        have x15 : wr.cell? ⟨w.heap.size, 15, none⟩ = some (.slice l.ma l.ml l.mc) := r.cell 15
        have x16 : wr.cell? ⟨w.heap.size, 16, none⟩ = some (.slice l.ra l.rl l.rc) := r.cell 16
        have HTk : Hid (∀ W : World, W.heap = wr.heap → W.os = wr.os → W.tape = wr.tape → W.output = wr.output → Calls Tryz.prog 117 #[.pointer (some ⟨gB, 0, none⟩), csV x l, .int .i64 d, .agg (eventL ev).toArray] W fun r w' => r = .returned (.bool true) ∧ BookS W w' gB gw gs (pv + sn) nc (fun a => replay (datK x) d (es.take i ++ [ev]) (a : Int)) (fun k => (seenF k (es.take i ++ [ev]) : Int))) := fun W h1 h2 h3 h4 => by
          have hb : Below w.heap.size w W := B.trans ⟨h2, h3, h4, by rw [h1]; exact Nat.le_refl _, fun k _ => by rw [h1]⟩
          have hk : BookS W W gB gw gs (pv + sn) nc (fun a => replay (datK x) d (es.take i) (a : Int)) (fun k => (seenF k (es.take i) : Int)) := ⟨by unfold Row; rw [h1]; exact K.bk, by unfold Row; rw [h1]; exact K.wd, by unfold Row; rw [h1]; exact K.sn, Touch.refl _ _⟩
          exact ktakes_any x l HZ.out d nc (pv + sn) hd HNC.out HES.out (es.take i) ev hge gB gw gs w W HCA.out hb hk n1 n2 n3 (by omega)
        have HRR : Hid (Row wr w.heap.size (csL x l) 33) := r
        have HBB : Hid _ := B
        clear hev hge r B K
        go_wp2_with fail
        go_region_law (first
          | (rw [if_pos (by rfl)]; go_simp; go_at_call 117; refine (HTk.out _ (by rfl) (by rfl) (by rfl) (by rfl)).mono ?_; rintro e w2 ⟨rfl, K2⟩))
        all_goals
          have HR2 : Hid (Row w2 w.heap.size (csL x l) 33) := Row.same (w := wr.drew) HRR.out (K2.tch.block w.heap.size lr (fun q => by omega))
          have HB2 : Hid (Below w.heap.size w w2) := HBB.out.drew.trans (K2.tch.below w.heap.size HBB.out.size (fun b q => by rcases q with q | q <;> omega))
          have HK2 : Hid (BookS w2 w2 gB gw gs (pv + sn) nc (fun a => replay (datK x) d (es.take (i + 1)) (a : Int)) (fun k => (seenF k (es.take (i + 1)) : Int))) := by unfold Hid; rw [HT1.out]; exact K2.here
          clear K2 x0 x1 x2 x3 x4 x5 x6 x7 x8 x9 x10 x11 x12 x13 x14 x15 x16 c0 c1 c2 c3 c4 c5
        all_goals go_wp2_with fail
        all_goals go_roundw
        all_goals try (case rel => exact ⟨i + 1, by omega, by go_num, HR2.out, HB2.out, HK2.out⟩)
        all_goals try (case measure => simp [intOf]; omega)
      · have HBB : Hid _ := B
        have HKF : Hid (BookS wr wr gB gw gs (x.c.priv.toNat + x.c.shared.toNat) x.c.cores.toNat (fun a => replay (datK x) d es (a : Int)) (fun k => (seenF k es : Int))) := by
          unfold Hid
          rw [HPV.out, HSN.out, HNC.out]
          rw [List.take_of_length_le (by rw [HEL.out]; omega)] at K
          exact K
        clear r B K
        go_wp2
        go_ret2
        exact ⟨gB, gw, gs, rfl, HBB.out, HKF.out⟩
end Go.Proofs.YtcmcfafhllpojabGreat
