/-
  A case of wallskeep: stored.
-/
import Derived.Test.YtcmcfafhllpojabGreatClPackAR
import Derived.Test.YtcmcfafhllpojabGreatClPackAN
import Derived.Test.YtcmcfafhllpojabGreatClKaseRB
import Derived.Test.YtcmcfafhllpojabGreatClPackZ
import Derived.Test.YtcmcfafhllpojabGreatClPackAE
import Derived.Test.YtcmcfafhllpojabGreatClPackAT
namespace Go.Proofs.YtcmcfafhllpojabGreat
open Go.RowKit

set_option maxRecDepth 100000 in
set_option maxHeartbeats 6400000 in
theorem kstored_any (x : Cs) (l : Cl) (hz : chk x.c = 0) (X : XLoc) (T : Nat) (hT : T ≤ 10000) (gS nc nn nd : Nat) (nr : Nat → Nat → Cp) (d : Nat) (w : World) (hCA : CaseAt w x l) (hM : MachM w (cnOf x.c) X (Mh.runs (cnOf x.c) T (machK x))) (hS : SightM w gS nc nn nd nr (lenK x) (lnK x T) (mkK x T)) (hd : (d : Int) < x.c.domains) (hdn : d < nd) (hl192 : lenK x d ≤ 192) :
    Calls Tryz.prog 29 #[csV x l, .pointer (some ⟨X.g, 0, none⟩), .pointer (some ⟨gS, 0, none⟩), .int .i64 d, .int .i64 T] w fun e w' => e = .returned (.bool true) ∧ Below w.heap.size w w' := by
  have R := right_of hz
  have hN := nm_of hz
  have hb0 : Below w.heap.size w (w.alloc (.cells (csA x l) 33)) := (Below.refl _ _).alloc (Nat.le_refl _) _
  have hR0 : Row (w.alloc (.cells (csA x l) 33)) w.heap.size (csL x l) 33 := heap_alloc_new w _
  have hsz0 : (w.alloc (.cells (csA x l) 33)).heap.size = w.heap.size + 1 := by simp
  obtain ⟨W0, hW0⟩ : ∃ W0, w.alloc (.cells (csA x l) 33) = W0 := ⟨_, rfl⟩
  rw [hW0] at hb0 hR0 hsz0
  have HW0 : Hid _ := hW0
  obtain ⟨ok, _⟩ := runsK_ok x hz T
  have hTr := wTrace_any (cnOf x.c) X _ (d : Int) W0 (hM.below hb0 (Nat.le_refl _)) ok
  have htl := ok.trl (by show x.c.cores.toNat ≤ 3; have := R.c2; omega) d
  obtain ⟨t1, t2, t3, t4⟩ := trace_at (w := W0) (N := cnOf x.c) (m := Mh.runs (cnOf x.c) T (machK x)) (d := d) hd htl
  rw [t2, t3] at hTr
  have hes := traceK x hz T hT d hd
  have hrd := (book_upto (M := datK x) (d := d) hz T hT).2.read
  obtain ⟨es, hee⟩ : ∃ es, (Mh.runs (cnOf x.c) T (machK x)).tr d = es := ⟨_, rfl⟩
  rw [hee] at t1 hTr htl hes
  rw [← hes] at hrd
  obtain ⟨w1, hw1⟩ : ∃ w1, traceW (cnOf x.c) (Mh.runs (cnOf x.c) T (machK x)) (d : Int) W0 = w1 := ⟨_, rfl⟩
  rw [hw1] at t1 t4 hTr
  have B1 : Below w.heap.size w w1 := below_step hb0 t4 rfl
  have R1 : Row w1 w.heap.size (csL x l) 33 := Row.below hR0 t4 (by omega)
  have hRd := kread_book x l hz d hd es hrd _ es.length es.length w1 (hCA.below B1 (Nat.le_refl _)) t1 htl
  have HT1 : Hid _ := t1
  have HB1 : Hid _ := B1
  have HR1 : Hid (Row w1 w.heap.size (csL x l) 33) := R1
  have HCA : Hid _ := hCA
  have HM : Hid _ := hM
  have HS : Hid _ := hS
  have HZ : Hid _ := hz
  have HD : Hid _ := hd
  have HES : Hid _ := hes
  have HTL : Hid _ := htl
  have hrow1 := R1
  obtain ⟨pv, hpv⟩ : ∃ pv, x.c.priv.toNat = pv := ⟨_, rfl⟩
  obtain ⟨sn, hsn⟩ : ∃ sn, x.c.shared.toNat = sn := ⟨_, rfl⟩
  obtain ⟨lnn, hln⟩ : ∃ lnn, x.c.line.toNat = lnn := ⟨_, rfl⟩
  have HPV : Hid _ := hpv
  have HSN : Hid _ := hsn
  have HLNN : Hid _ := hln
  rw [hpv, hsn] at hRd
  have hn96 : pv + sn ≤ 96 := by have := shape_bounds (chk_zero hz).1; omega
  have HLE : Hid ((lnn : Int) = x.c.line) := by unfold Hid; have := shape_bounds (chk_zero hz).1; omega
  have hl0 : 0 < lnn := by have := shape_bounds (chk_zero hz).1; omega
  have hl0' : 0 < x.c.line := by have := shape_bounds (chk_zero hz).1; omega
  have hS0 : w.heap.size ≤ w1.heap.size := B1.size
  clear hb0 hR0 hsz0 hW0 ok t1 t2 t3 t4 hee hw1 B1 R1 hCA hM hS hz hd hes hrd htl hpv hsn hln R hN
  go_enter Tryz.func29, Tryz.ntmps29
  go_wp2_with fail
  rw [HW0.out]
  refine hTr.mono ?_; rintro e v1 ⟨rfl, rfl⟩
  clear hTr
  go_wp2_with (refine wpList_load_row (by rfl) 33 (.tmp 5) (by rfl) w.heap.size (by rfl) 33 (csL x l).toArray (0, 0) _ hrow1 Tryz.underlying33 (by rfl) (size_case x l) ?_)
  refine hRd.mono ?_; rintro e w2 ⟨gB, gw, gs, rfl, hb2, bk2⟩
  have B2 : Below w.heap.size w w2 := below_step HB1.out hb2 rfl
  have R2 : Row w2 w.heap.size (csL x l) 33 := Row.below HR1.out hb2 HR1.out.lt
  have hGr := kgrown_any x l HZ.out d HD.out T hT es HES.out _ es.length es.length w2 (HCA.out.below B2 (Nat.le_refl _)) (HT1.out.below hb2 (Nat.le_refl _)) (by have := HTL.out; omega)
  have hrow2 := R2
  have HB2 : Hid _ := B2
  have HR2 : Hid (Row w2 w.heap.size (csL x l) 33) := R2
  have HK2 : Hid _ := bk2
  clear hRd hrow1 hb2 bk2 B2 R2
  go_wp2_with (refine wpList_load_row (by rfl) 33 (.tmp 5) (by rfl) w.heap.size (by rfl) 33 (csL x l).toArray (0, 0) _ hrow2 Tryz.underlying33 (by rfl) (size_case x l) ?_)
  refine hGr.mono ?_; rintro e w3 ⟨rfl, hb3⟩
  have HB3 : Hid (Below w.heap.size w w3) := below_step HB2.out hb3 rfl
  have HR3 : Hid (Row w3 w.heap.size (csL x l) 33) := Row.below HR2.out hb3 HR2.out.lt
  have HK3 : Hid _ := HK2.out.below hb3
  have hS3 : w.heap.size ≤ w3.heap.size := HB3.out.size
  clear hGr hrow2 hb3
  go_wp2_with fail
  go_loopw [16] (fun u wr => ∃ (a : Nat), a ≤ pv + sn ∧ u = .int .i64 a ∧ Below w3.heap.size w3 wr) (fun u _ => pv + sn - (intOf u).toNat)
  case atStart => exact ⟨0, by omega, rfl, Below.refl _ _⟩
  case round =>
    obtain ⟨a, ha, rfl, hb⟩ := hrel
    have Bk := HK3.out.below hb
    have k0 : wr.cell? ⟨gB, 0, none⟩ = some (.slice (some ⟨gw, 0, none⟩) (pv + sn) (pv + sn)) := Bk.bk.cell 0
    have lk := Bk.bk.lt
    have HB : Hid _ := hb
    by_cases hlt : a < pv + sn
    · have Bw : Below w.heap.size w wr := HB3.out.trans (hb.mono hS3)
      have hMe := wMemory_good (cnOf x.c) X _ d a wr (HM.out.below Bw (Nat.le_refl _)) (by show d < x.c.domains.toNat; have := HD.out; omega) (by show a < x.c.priv.toNat + x.c.shared.toNat; rw [HPV.out, HSN.out]; exact hlt)
      have R3 : Row wr w.heap.size (csL x l) 33 := Row.below HR3.out hb HR3.out.lt
      have HBK : Hid _ := Bk
      have HRR : Hid (Row wr w.heap.size (csL x l) 33) := R3
      have HBW : Hid _ := Bw
      obtain ⟨v, hv⟩ : ∃ v, wordM (cnOf x.c).pv (cnOf x.c).sn ((Mh.runs (cnOf x.c) T (machK x)).own d) (Mh.runs (cnOf x.c) T (machK x)).sh a = v := ⟨_, rfl⟩
      rw [hv] at hMe
      have HV : Hid _ := hv
      clear hb Bk Bw hv R3
      go_wp2_with fail
      refine hMe.mono ?_; rintro e w4 ⟨rfl, hb4⟩
      have Bk4 := HBK.out.below hb4
      have R4 : Row w4 w.heap.size (csL x l) 33 := Row.below HRR.out hb4 HRR.out.lt
      have B4 : Below w.heap.size w w4 := below_step HBW.out hb4 rfl
      have B34 : Below w3.heap.size w3 w4 := below_step HB.out hb4 rfl
      obtain ⟨y, hy⟩ : ∃ y, a / lnn = y := ⟨_, rfl⟩
      have HY : Hid _ := hy
      have hBl := kblock_any gS nc nn nd nr (lenK x) (lnK x T) (mkK x T) d y w4 (HS.out.below B4 (Nat.le_refl _)) hdn hl192
      have x2 : w4.cell? ⟨w.heap.size, 2, none⟩ = some (.int .i64 x.c.line) := R4.cell 2
      have lr4 := R4.lt
      have hya : y ≤ a := by rw [← hy]; exact Nat.div_le_self _ _
      have hwy : IntKind.i64.wrap ((a : Int) / x.c.line) = (y : Int) := by rw [← HLE.out, ← Int.natCast_ediv, hy, IntKind.wrap_i64]; omega
      have HB4 : Hid _ := B4
      have HB34 : Hid _ := B34
      have HBK4 : Hid _ := Bk4
      clear hMe hb4 k0 lk Bk4 R4 B4 B34 hy
      go_wp2_with fail
      refine hBl.mono ?_; rintro e w5 ⟨b1, b2, rfl, hsay, hb5⟩
      have Bk5 := HBK4.out.below hb5
      have k5 : w5.cell? ⟨gB, 0, none⟩ = some (.slice (some ⟨gw, 0, none⟩) (pv + sn) (pv + sn)) := Bk5.bk.cell 0
      have lk5 := Bk5.bk.lt
      have lw5 := Bk5.wd.lt
      have kw : w5.cell? ⟨gw, a, none⟩ = some (.int .i64 (replay (datK x) d es (a : Int))) := (Bk5.wd.cell a).trans (fl_at hlt)
      have HB5 : Hid (Below w3.heap.size w3 w5) := below_step HB34.out hb5 rfl
      have hsr := says_rightK x HZ.out d HD.out T hT a (by rw [HPV.out, HSN.out]; exact hlt) b1 b2 (by rw [HLNN.out, HY.out]; exact hsay)
      rw [← HES.out] at hsr
      have hv' := HV.out
      unfold Hid at hv'
      have hsr2 : (b1 = true ∧ b2 = true ∧ v ≠ replay (datK x) d es (a : Int)) ∨ v = replay (datK x) d es (a : Int) := by
        by_cases q : v = replay (datK x) d es (a : Int)
        · exact Or.inr q
        · rcases hsr with ⟨q1, q2⟩ | q3
          · exact Or.inl ⟨q1, q2, q⟩
          · exact absurd (hv'.symm.trans q3) q
      clear hBl hb5 hsay hsr hv' Bk5 x2
      rcases hsr2 with ⟨rfl, rfl, hne⟩ | hve
      · generalize replay (datK x) d es (a : Int) = rv at *
        have hn1 : (v != rv) = true := by simp [hne]
        clear hne
        go_wp2_with fail
        try go_quiet (fail)
        try go_wp2_with fail
        go_roundw
        case rel => exact ⟨a + 1, by omega, by go_num, by first | exact HB5.out | exact HB5.out.trans ⟨rfl, rfl, rfl, Nat.le_refl _, fun _ _ => rfl⟩⟩
        case measure => simp [intOf]; omega
      · rw [← hve] at kw
        clear hve
        go_wp2_with fail
        try go_quiet (fail)
        try go_wp2_with fail
        go_roundw
        case rel => exact ⟨a + 1, by omega, by go_num, by first | exact HB5.out | exact HB5.out.trans ⟨rfl, rfl, rfl, Nat.le_refl _, fun _ _ => rfl⟩⟩
        case measure => simp [intOf]; omega
    · clear hb Bk
      go_wp2
      go_ret
      exact ⟨rfl, HB3.out.trans (HB.out.mono hS3)⟩
end Go.Proofs.YtcmcfafhllpojabGreat
